/- The coder's structs and lists of them (gen_structs.py). The coder's structs and lists of them (gen_structs.py). -/
import Derived.Test.YtngcbpgafjnfaaaGreatDoorLoB10
import Derived.Test.YtngcbpgafjnfaaaGreatDoorLoB9
set_option linter.unusedSimpArgs false
set_option linter.unusedVariables false

namespace Go.Proofs.YtngcbpgafjnfaaaGreatDoor
open Go.RowKit Go.Sort
set_option linter.unusedVariables false

/-- lck -/
def lckK : Kd Lck := ⟨lckC, 12, ⟨0, [0, 0, 0], ⟨0, 0, false, [], [0, 0, 0, 0]⟩⟩, fun w N cs a => ∃ c0 c1 c2, cs = c0 ++ (c1 ++ (c2)) ∧ (natK .u64 8 18446744073709551615).is w N c0 a.tx ∧ mansK.is w N c1 a.mans ∧ itmK.is w N c2 a.item⟩
theorem lckK_fine : lckK.Fine := by
  refine ⟨fun w N cs a ha => ?_, fun w w' N P cs a ha hs hN => ?_, fun w N M cs a ha hm => ?_⟩
  · obtain ⟨c0, c1, c2, rfl, h0, h1, h2⟩ := ha
    have s0 := (natK_okay (kd := .u64) (size := 8) (most := 18446744073709551615) (by decide) (by decide)).fine.size _ _ _ _ h0; have s1 := (rowK_okay (intK_okay (size := 1) (most := 255) (by decide) (by decide)) _ _ 3).fine.size _ _ _ _ h1; have s2 := itmK_okay.fine.size _ _ _ _ h2
    change c0.length = 1 at s0; change c1.length = 3 at s1; change c2.length = 8 at s2
    show _ = 12
    simp only [List.length_append]; omega
  · obtain ⟨c0, c1, c2, e, h0, h1, h2⟩ := ha
    exact ⟨c0, c1, c2, e, (natK_okay (kd := .u64) (size := 8) (most := 18446744073709551615) (by decide) (by decide)).fine.safe _ _ _ _ _ _ h0 hs hN, (rowK_okay (intK_okay (size := 1) (most := 255) (by decide) (by decide)) _ _ 3).fine.safe _ _ _ _ _ _ h1 hs hN, itmK_okay.fine.safe _ _ _ _ _ _ h2 hs hN⟩
  · obtain ⟨c0, c1, c2, e, h0, h1, h2⟩ := ha
    exact ⟨c0, c1, c2, e, (natK_okay (kd := .u64) (size := 8) (most := 18446744073709551615) (by decide) (by decide)).fine.mono _ _ _ _ _ h0 hm, (rowK_okay (intK_okay (size := 1) (most := 255) (by decide) (by decide)) _ _ 3).fine.mono _ _ _ _ _ h1 hm, itmK_okay.fine.mono _ _ _ _ _ h2 hm⟩
theorem step_lck (md : Bool) (l : List Nat) (a : Lck) : step lckC md l a = (step eight md l a.tx).bind fun p0 => (step mansC md p0.1 a.mans).bind fun p1 => (step itmC md p1.1 a.item).bind fun p2 => some (p2.1, ⟨p0.2, p1.2, p2.2⟩) := by
  unfold lckC
  rw [step_map _ _ _ _ _ _ (fun _ => rfl)]
  simp only [step_two, Option.map_bind, Option.bind_assoc, Option.bind_some, Option.map_some, Function.comp_def]
theorem lckK_okay : lckK.Okay 4896 := ⟨lckK_fine, lck_good, fun a ha => enc_len (c := lckC) ha fun p hp => by
  rw [step_lck] at hp
  obtain ⟨p0, e0, hp⟩ := bind_some_of hp
  have t0 := okay_stepw (natK_okay (kd := .u64) (size := 8) (most := 18446744073709551615) (by decide) (by decide)) (show step (natK .u64 8 18446744073709551615).cod false _ _ = _ from e0)
  obtain ⟨p1, e1, hp⟩ := bind_some_of hp
  have t1 := okay_stepw (rowK_okay (intK_okay (size := 1) (most := 255) (by decide) (by decide)) _ _ 3) (show step mansK.cod false _ _ = _ from e1)
  obtain ⟨p2, e2, hp⟩ := bind_some_of hp
  have t2 := okay_stepw itmK_okay (show step itmK.cod false _ _ = _ from e2)
  injection hp with hp
  subst hp
  simp at *
  omega⟩

set_option maxHeartbeats 8000000 in
theorem lck_codes : Codes 167 [] lckK 4896 := by
  intro md P N gc sb f l g o cs a w hcd hz his hcs hN hw hr hg hne hl
  obtain ⟨c0, c1, c2, rfl, h0, h1, h2⟩ := his
  have s0 := (natK_okay (kd := .u64) (size := 8) (most := 18446744073709551615) (by decide) (by decide)).fine.size _ _ _ _ h0; change c0.length = 1 at s0
  have s1 := (rowK_okay (intK_okay (size := 1) (most := 255) (by decide) (by decide)) _ _ 3).fine.size _ _ _ _ h1; change c1.length = 3 at s1
  have s2 := itmK_okay.fine.size _ _ _ _ h2; change c2.length = 8 at s2
  have k0 := cells_left hcs; have r0 := cells_right hcs; rw [s0] at r0
  have k1 := cells_left r0; have r1 := cells_right r0; rw [s1] at r1
  rw [Nat.add_assoc] at r1
  have k2 := r1
  have M0 := Lib.hid (Mid.start (sz := 12) hcd (show Slots w (Grow md N w w) g o [(natK .u64 8 18446744073709551615).slot 0 a.tx, mansK.slot 1 a.mans, itmK.slot 4 a.item] from ⟨⟨c0, (natK_okay (kd := .u64) (size := 8) (most := 18446744073709551615) (by decide) (by decide)).fine.mono _ _ (Grow md N w w) _ _ h0 (fun b hb => Or.inl hb), k0⟩, ⟨⟨c1, (rowK_okay (intK_okay (size := 1) (most := 255) (by decide) (by decide)) _ _ 3).fine.mono _ _ (Grow md N w w) _ _ h1 (fun b hb => Or.inl hb), k1⟩, ⟨⟨c2, itmK_okay.fine.mono _ _ (Grow md N w w) _ _ h2 (fun b hb => Or.inl hb), k2⟩, trivial⟩⟩⟩))
  have Z0 := Lib.hid (show md = true → a.tx = (natK .u64 8 18446744073709551615).zero from fun h => by rw [hz h]; rfl)
  have Z1 := Lib.hid (show md = true → a.mans = mansK.zero from fun h => by rw [hz h]; rfl)
  have Z2 := Lib.hid (show md = true → a.item = itmK.zero from fun h => by rw [hz h]; rfl)
  show Calls _ _ #[.pointer (some ⟨gc, 0, none⟩), .pointer (some ⟨g, o, none⟩)] w (Coded md P N gc sb f g o lckK w (step lckC md l a))
  have HR := Lib.hid (step_lck md l a)
  generalize step lckC md l a = r at *
  have HN := Lib.hid hN; have HW := Lib.hid hw; have HRD := Lib.hid hr
  clear hcd hz hcs hN hw hr h0 s0 k0 h1 s1 k1 h2 s2 k2 r0 r1
  go_enter Tryz.func167, Tryz.ntmps167
  have CALL := Lib.hid (M0.out.call (natK_okay (kd := .u64) (size := 8) (most := 18446744073709551615) (by decide) (by decide)).fine long_codes Z0.out HN.out HW.out HRD.out hg hne (by omega) (Nat.le_of_ble_eq_true rfl) trivial ⟨(rowK_okay (intK_okay (size := 1) (most := 255) (by decide) (by decide)) _ _ 3).fine.slot _ _, ⟨itmK_okay.fine.slot _ _, trivial⟩⟩ trivial ⟨.inr (Nat.le_of_ble_eq_true rfl), ⟨.inr (Nat.le_of_ble_eq_true rfl), trivial⟩⟩)
  rw [Nat.add_zero] at CALL
  cases e0 : step (natK .u64 8 18446744073709551615).cod md l a.tx with
  | none =>
    rw [e0] at CALL
    have hr0 : r = none := by
      have h9 := HR.out
      change step eight md l a.tx = _ at e0; rw [e0] at h9; exact h9
    clear e0
    subst hr0
    go_wp2_with fail
    refine CALL.out.mono ?_
    rintro e w' ⟨h8, a', h9, h10, rfl, h11⟩
    exact ⟨rfl, coded_gave ⟨a', h9, h10, rfl, h11⟩ h8⟩
  | some p0 =>
    rw [e0] at CALL
    have hlen0 := (natK_okay (kd := .u64) (size := 8) (most := 18446744073709551615) (by decide) (by decide)).step M0.out.cd.bytes_of e0
    have E0 := Lib.hid e0
    clear e0
    go_wp2_with fail
    refine CALL.out.mono ?_
    rintro e w1 ⟨rfl, hM⟩
    have M1 := Lib.hid hM
    clear hM CALL
    have CALL := Lib.hid (M1.out.call (rowK_okay (intK_okay (size := 1) (most := 255) (by decide) (by decide)) _ _ 3).fine mans_codes Z1.out HN.out HW.out HRD.out hg hne (by omega) (Nat.le_of_ble_eq_true rfl) ⟨(natK_okay (kd := .u64) (size := 8) (most := 18446744073709551615) (by decide) (by decide)).fine.slot _ _, trivial⟩ ⟨itmK_okay.fine.slot _ _, trivial⟩ ⟨.inl (Nat.le_of_ble_eq_true rfl), trivial⟩ ⟨.inr (Nat.le_of_ble_eq_true rfl), trivial⟩)
    cases e1 : step mansK.cod md p0.1 a.mans with
    | none =>
      rw [e1] at CALL
      have hr0 : r = none := by
        have h9 := HR.out
        have hh0 := E0.out; change step eight md l a.tx = _ at hh0; rw [hh0] at h9; simp only [Option.bind_some] at h9
        change step mansC md p0.1 a.mans = _ at e1; rw [e1] at h9; exact h9
      clear e1
      subst hr0
      go_wp2_with fail
      refine CALL.out.mono ?_
      rintro e w' ⟨h8, a', h9, h10, rfl, h11⟩
      exact ⟨rfl, coded_gave ⟨a', h9, h10, rfl, h11⟩ h8⟩
    | some p1 =>
      rw [e1] at CALL
      have hlen1 := (rowK_okay (intK_okay (size := 1) (most := 255) (by decide) (by decide)) _ _ 3).step M1.out.cd.bytes_of e1
      have E1 := Lib.hid e1
      clear e1
      go_wp2_with fail
      refine CALL.out.mono ?_
      rintro e w2 ⟨rfl, hM⟩
      have M2 := Lib.hid hM
      clear hM CALL
      have CALL := Lib.hid (M2.out.call itmK_okay.fine itm_codes Z2.out HN.out HW.out HRD.out hg hne (by omega) (Nat.le_of_ble_eq_true rfl) ⟨(rowK_okay (intK_okay (size := 1) (most := 255) (by decide) (by decide)) _ _ 3).fine.slot _ _, ⟨(natK_okay (kd := .u64) (size := 8) (most := 18446744073709551615) (by decide) (by decide)).fine.slot _ _, trivial⟩⟩ trivial ⟨.inl (Nat.le_of_ble_eq_true rfl), ⟨.inl (Nat.le_of_ble_eq_true rfl), trivial⟩⟩ trivial)
      cases e2 : step itmK.cod md p1.1 a.item with
      | none =>
        rw [e2] at CALL
        have hr0 : r = none := by
          have h9 := HR.out
          have hh0 := E0.out; change step eight md l a.tx = _ at hh0; rw [hh0] at h9; simp only [Option.bind_some] at h9
          have hh1 := E1.out; change step mansC md p0.1 a.mans = _ at hh1; rw [hh1] at h9; simp only [Option.bind_some] at h9
          change step itmC md p1.1 a.item = _ at e2; rw [e2] at h9; exact h9
        clear e2
        subst hr0
        go_wp2_with fail
        refine CALL.out.mono ?_
        rintro e w' ⟨h8, a', h9, h10, rfl, h11⟩
        exact ⟨rfl, coded_gave ⟨a', h9, h10, rfl, h11⟩ h8⟩
      | some p2 =>
        rw [e2] at CALL
        have hlen2 := itmK_okay.step M2.out.cd.bytes_of e2
        have E2 := Lib.hid e2
        clear e2
        go_wp2_with fail
        refine CALL.out.mono ?_
        rintro e w3 ⟨rfl, hM⟩
        have M3 := Lib.hid hM
        clear hM CALL
        have hr0 : r = some (p2.1, ⟨p0.2, p1.2, p2.2⟩) := by
          have h9 := HR.out
          have hh0 := E0.out; change step eight md l a.tx = _ at hh0; rw [hh0] at h9; simp only [Option.bind_some] at h9
          have hh1 := E1.out; change step mansC md p0.1 a.mans = _ at hh1; rw [hh1] at h9; simp only [Option.bind_some] at h9
          have hh2 := E2.out; change step itmC md p1.1 a.item = _ at hh2; rw [hh2] at h9; simp only [Option.bind_some] at h9
          first | exact h9 | (rw [hb]; exact h9)
        subst hr0
        go_wp2_with fail
        go_end0
        have M := M3.out
        obtain ⟨⟨d2, q2, x2⟩, ⟨d1, q1, x1⟩, ⟨d0, q0, x0⟩, _⟩ := M.dn
        change (natK .u64 8 18446744073709551615).is w3 (Grow md N w w3) d0 p0.2 at q0
        have t0 := (natK_okay (kd := .u64) (size := 8) (most := 18446744073709551615) (by decide) (by decide)).fine.size _ _ _ _ q0; change d0.length = 1 at t0; change Cells _ g (o + 0) d0 at x0
        change mansK.is w3 (Grow md N w w3) d1 p1.2 at q1
        have t1 := (rowK_okay (intK_okay (size := 1) (most := 255) (by decide) (by decide)) _ _ 3).fine.size _ _ _ _ q1; change d1.length = 3 at t1; change Cells _ g (o + 1) d1 at x1
        change itmK.is w3 (Grow md N w w3) d2 p2.2 at q2
        have t2 := itmK_okay.fine.size _ _ _ _ q2; change d2.length = 8 at t2; change Cells _ g (o + 4) d2 at x2
        have y1 := cells_join x1 (show Cells _ g (o + 1 + d1.length) _ from by rw [t1, Nat.add_assoc]; exact x2)
        have y0 := cells_join x0 (show Cells _ g (o + 0 + d0.length) _ from by rw [t0, Nat.add_assoc]; exact y1)
        exact ⟨M.safe, rfl, M.cd, ⟨d0 ++ (d1 ++ (d2)), ⟨d0, d1, d2, rfl, q0, q1, q2⟩, by rw [Nat.add_zero] at y0; exact y0⟩, M.out, M.fz⟩

set_option maxHeartbeats 16000000 in
theorem listlck_codes (mx : Nat) (hlen : ∀ a, (lckK).cod.ok a = true → ((lckK).cod.enc a).length ≤ mx) (hgood : Good (lckK).cod) (hE : Codes 167 [] (lckK) mx) (max : Nat) (hm : max ≤ 255) : Codes 166 [.int .u64 (max : Int), .func (.func 167) #[] #[]] (listK (lckK) max) (8 + max * mx) := by
  intro md P N gc sb f l g o cs xs w hcd hz his hcs hN hw hr hg hne hl
  obtain ⟨ao0, n0, cap0, rfl, hsl⟩ := his
  have hp := hcs 0 _ rfl
  simp only [Nat.add_zero] at hp
  have hn0 : n0 ≤ 9223372036854775807 := Nat.le_trans hsl.2.1 hsl.2.2.1
  have hxs := hsl.1
  have HCAP := Lib.hid hsl.2.2.1
  have hz0 : md = true → n0 = 0 := fun h => by rw [← hxs, hz h]; rfl
  have NB := Lib.hid (boxnum hcd hg hne hw n0 hn0 hz0 max hm (by omega))
  show Calls _ _ #[.pointer (some ⟨gc, 0, none⟩), .pointer (some ⟨g, o, none⟩), .int .u64 (max : Int), .func (.func 167) #[] #[]] w (Coded md P N gc sb f g o (listK (lckK) max) w (step (list max (lckK).cod) md l xs))
  have HR := Lib.hid (step_list (lckK).cod md max (lckK).zero xs l)
  rw [hxs] at HR
  generalize hrr : step (list max (lckK).cod) md l xs = r at *
  clear hrr
  have hgc := hcd.lt
  have HNP := Lib.hid hN
  have HPO := Lib.hid (fun b (hb : P b) => hcd.off hb)
  cases md
  · have HE := Lib.hid (fun l' w' hcd' hs' => coded_wrote (sb := sb) (f := f) (gc := gc) (l' := l') (listK_fine lckK_okay.fine max) (w' := w') hcd' hs' (hw rfl) hN ⟨ao0, n0, cap0, rfl, hsl⟩ hcs)
    obtain ⟨g2, o2, hsn, hat⟩ := sl_at hsl
    have HAT := Lib.hid hat
    clear hat
    by_cases hok : n0 ≤ max
    · rw [num_w hok] at NB HR
      simp only [Option.bind_some, Bool.false_eq_true, if_false] at HR
      clear hz hcs hN hw hr hcd hz0 hsl
      go_enter Tryz.func166, Tryz.ntmps166
      go_wp2_with fail
      refine NB.out.mono ?_
      rintro e w1 ⟨rfl, h1, h2, h3, h4, h5⟩
      have h1 : CdIs w1 false (fun b => P b ∨ b = g ∨ b = w.heap.size) gc sb f (l ++ le 1 n0) := h1
      have h3 : w1.cell? ⟨w.heap.size, 0, none⟩ = some (.int .i64 (n0 : Int)) := h3
      have hp1 := (h2.cell (a := ⟨g, o, none⟩) (.inr rfl)).trans hp
      have H2 := Lib.hid h2
      have M0 := Lib.hid (MidL.start (k := lckK) (N := N) (g := g2) (o := o2) (xs := xs) h1 (fun i a hi => by
        obtain ⟨cs, q1, q2⟩ := HAT.out i a hi
        have hn : 0 < n0 := by have := (List.getElem?_eq_some_iff.1 hi).1; omega
        exact ⟨cs, lckK_okay.fine.mono _ _ _ _ _ (lckK_okay.fine.safe _ _ _ _ _ _ q1 (h2.mono fun b hb => .inl hb) HNP.out) (fun b hb => .inl hb), q2.safe h2 (.inl (HNP.out _ (hsn hn).2))⟩))
      have HSZ := Lib.hid (show w.heap.size ≤ w1.heap.size from h2.size)
      have HPG := Lib.hid hp1
      have hcc := h1
      obtain ⟨ao, n, cap, ha, hof⟩ := h1
      have c0 := ha.c0
      have HL0 := Lib.hid (show (l ++ le 1 n0).length = l.length + 1 by simp [le_length])
      clear ha hof h2 h4 hp hp1 hcc
      generalize l ++ le 1 n0 = l1 at *
      go_wp2_with fail
      clear c0 h3
      go_loopw [30] (fun i wr => ∃ (k : Nat) (lk : List Nat), k ≤ n0 ∧ i = .int .i64 (k : Int) ∧ stepL (lckK).cod false (xs.take k) l1 = some (lk, xs.take k) ∧ lk.length ≤ l.length + 1 + k * mx ∧ MidL false (fun b => P b ∨ b = g ∨ b = w.heap.size) N gc sb f lk g2 o2 (lckK) xs w1 wr) (fun i _ => n0 - (intOf i).toNat)
      case atStart => exact ⟨0, l1, by omega, rfl, rfl, by rw [HL0.out]; omega, M0.out⟩
      case round =>
        obtain ⟨k, lk, hk, rfl, hst, hlk, hM⟩ := hrel
        have HM := Lib.hid hM
        have HST := Lib.hid hst
        have hp2 := (hM.safe.toSafe.cell (a := ⟨g, o, none⟩) (.inr (.inl rfl))).trans HPG.out
        clear hM hst
        by_cases hlt : k < n0
        · have hi : xs[k]? = some (xs[k]'(by omega)) := List.getElem?_eq_getElem (by omega)
          generalize xs[k]'(by omega) = a at hi
          have HI := Lib.hid hi
          obtain ⟨hao, hNg⟩ := hsn (by omega)
          have hkm : (k + 1) * mx ≤ max * mx := Nat.mul_le_mul_right _ (by omega)
          rw [Nat.succ_mul] at hkm
          have CALL := Lib.hid (HM.out.call lckK_okay.fine hE hi (fun h => by cases h) (fun b hb => .inl (HNP.out b hb)) (fun _ => .inl (HNP.out _ hNg)) (fun h => by cases h) (Nat.lt_of_lt_of_le (HPO.out _ (HNP.out _ hNg)).1 HSZ.out) (HPO.out _ (HNP.out _ hNg)).2 (by omega))
          have HMORE := Lib.hid (stepL_more (lckK).cod false hi l1)
          rw [HST.out] at HMORE
          subst hao
          clear hi
          cases hs : step (lckK).cod false lk a with
          | none =>
            rw [hs] at CALL
            have hr0 : r = none := by
              rw [HR.out]
              refine stepL_none _ _ l1 (k := k + 1) ?_
              have h9 := HMORE.out
              simp only [Option.bind_some, hs, Option.map_none] at h9
              exact h9
            clear hs HMORE
            subst hr0
            go_wp2_with fail
            refine CALL.out.mono ?_
            rintro e w' ⟨h8, a', h9, h10, rfl, h11⟩
            exact ⟨rfl, coded_gave (Gave.from ⟨a', h9, h10, rfl, h11⟩ HSZ.out) ((SafeK.of H2.out).trans (SafeK.of (h8.toSafe.mono fun b hb => by
              rcases hb with hb | hb
              · exact .inl hb
              · exact .inr (.inl hb))))⟩
          | some p =>
            rw [hs] at CALL
            have HS := Lib.hid hs
            clear hs
            go_wp2_with fail
            refine CALL.out.mono ?_
            rintro e w' ⟨rfl, hM2⟩
            have HM2 := Lib.hid (midl_wrote HI.out HS.out hM2)
            clear hM2
            go_wp2_with fail
            go_roundw
            case rel =>
              refine ⟨k + 1, p.1, by omega, by go_num, ?_, ?_, HM2.out⟩
              · have h9 := HMORE.out
                have h10 := HS.out
                rw [step_w] at h10
                split at h10
                · injection h10 with h10
                  subst h10
                  rename_i hk2
                  simp only [Option.bind_some, step_w, hk2, if_true, Option.map_some] at h9
                  rw [h9, List.take_add_one, HI.out]; rfl
                · cases h10
              · have h10 := HS.out
                rw [step_w] at h10
                split at h10
                · injection h10 with h10
                  subst h10
                  rename_i hk2
                  have := hlen a hk2
                  simp only [List.length_append, Nat.succ_mul]
                  omega
                · cases h10
            case measure => simp [intOf]; omega
        · obtain rfl : n0 = k := by omega
          have hr0 : r = some (lk, xs) := by
            rw [HR.out]
            have h9 := HST.out
            rwa [List.take_of_length_le (by omega)] at h9
          subst hr0
          go_wp2_with fail
          go_end0
          exact HE.out _ _ (HM.out.cd.reP (fun hm => by cases hm) fun b hb => .inl (.inl (.inl hb))) ((H2.out.mono fun b hb => .inl hb).trans (HM.out.safe.toSafe.mono fun b hb => .inl hb))
    · rw [num_w_no (by omega)] at NB HR
      simp only [Option.bind_none] at HR
      have hr0 : r = none := HR.out
      subst hr0
      clear hz hcs hN hw hr hcd hz0 hsl
      go_enter Tryz.func166, Tryz.ntmps166
      go_wp2_with fail
      refine NB.out.mono ?_
      rintro e w1 ⟨hs, a, h1, h2, rfl, h3⟩
      exact ⟨rfl, coded_gave ⟨a, h1, h2, rfl, h3⟩ hs⟩
  · have hf0 := (hr rfl).2 o
    have hsrc := hcd.src
    have hnP := (hr rfl).1
    have hl0 := hcd.bytes
    obtain rfl : xs = [] := hz rfl
    obtain rfl : n0 = 0 := hz0 rfl
    clear hz hcs hN hw hr hcd hz0 hsl
    cases hst : step (num' 1 max) true l 0 with
    | none =>
      rw [hst] at NB HR
      simp only [Option.bind_none] at HR
      have hr0 : r = none := HR.out
      subst hr0
      clear hst
      go_enter Tryz.func166, Tryz.ntmps166
      go_wp2_with fail
      refine NB.out.mono ?_
      rintro e w1 ⟨hs, a, h1, h2, rfl, h3⟩
      exact ⟨rfl, coded_gave ⟨a, h1, h2, rfl, h3⟩ hs⟩
    | some p =>
      obtain ⟨l', n⟩ := p
      obtain ⟨hnm, hll⟩ := num_r_le hst
      rw [hst] at NB HR
      simp only [Option.bind_some, if_true] at HR
      clear hst
      by_cases hn : n = 0
      · subst hn
        have hr0 : r = some (l', []) := HR.out
        subst hr0
        go_enter Tryz.func166, Tryz.ntmps166
        go_wp2_with fail
        refine NB.out.mono ?_
        rintro e w1 ⟨rfl, h1, h2, h3, h4, h5⟩
        have h1 : CdIs w1 true (fun b => P b ∨ b = g ∨ b = w.heap.size) gc sb f l' := h1
        have h3 : w1.cell? ⟨w.heap.size, 0, none⟩ = some (.int .i64 0) := h3
        have hp1 := (h2.cell (a := ⟨g, o, none⟩) (.inr rfl)).trans hp
        have HE := Lib.hid (Coded.from (N := N) (listK_fine lckK_okay.fine max) (coded_keep (N := N) (k := listK (lckK) max) (g := g) (o := o) (a := []) (cs := [.slice ao0 0 cap0]) (listK_fine lckK_okay.fine max) h1 (fun b hb => .inl hb) hsrc ⟨ao0, 0, cap0, rfl, rfl, Nat.zero_le _, HCAP.out, fun i a hi => by simp at hi⟩ (fun j u hu => by
          obtain rfl : j = 0 := by
            have := (List.getElem?_eq_some_iff.1 hu).1
            simp at this; exact this
          obtain rfl : Value.slice ao0 0 cap0 = u := by simpa using hu
          exact hp1)) h2 hgc)
        obtain ⟨ao, nn, cap, ha, hof⟩ := h1
        have c0 := ha.c0
        clear ha hof h2 h4 hp hp1
        go_wp2_with fail
        go_loopw [30] (fun i wr => i = .int .i64 0 ∧ wr = w1) (fun _ _ => 0)
        case atStart => exact ⟨rfl, rfl⟩
        case round =>
          obtain ⟨rfl, rfl⟩ := hrel
          go_wp2_with fail
          go_end0
          exact HE.out
      · have hn1 : 1 ≤ n := by omega
        clear hn
        have HMM := Lib.hid (show mx ≤ max * mx from Nat.le_mul_of_pos_left _ (by omega))
        have HLL := Lib.hid hll
        clear hll
        go_enter Tryz.func166, Tryz.ntmps166
        go_wp2_with fail
        refine NB.out.mono ?_
        rintro e w1 ⟨rfl, h1, h2, h3, h4, h5⟩
        have h1 : CdIs w1 true (fun b => P b ∨ b = g ∨ b = w.heap.size) gc sb f l' := h1
        have h3 : w1.cell? ⟨w.heap.size, 0, none⟩ = some (.int .i64 (n : Int)) := h3
        have hp1 := (h2.cell (a := ⟨g, o, none⟩) (.inr rfl)).trans hp
        have hf1 : w1.frozen? ⟨g, o, none⟩ = false := (World.frozen?_of_block (w := w) (a := ⟨g, o, none⟩) (h2.block g (.inr rfl))).trans hf0
        have HLD := Lib.hid (laid_of (o := o) (n := n) (k := lckK) h1 hsrc hnP hne hg hgc h5 (Value.agg #[.int .u64 0, .int .i64 0, .int .i64 0, .int .i64 0, .int .i64 0, .int .u32 0, .bool false, .slice none 0 0, .int .u32 0, .int .u32 0, .int .u32 0, .int .u32 0]) 189 _ rfl rfl (fun w N => ⟨[.int .u64 0], [.int .i64 0, .int .i64 0, .int .i64 0], [.int .i64 0, .int .u32 0, .bool false, .slice none 0 0, .int .u32 0, .int .u32 0, .int .u32 0, .int .u32 0], rfl, ⟨rfl, by decide⟩, ⟨rfl, rfl, fun x hx => by change x ∈ ([0, 0, 0] : List Int) at hx; have hx : x = 0 := (by simpa using hx); subst hx; unfold I64; decide⟩, ⟨[.int .i64 0], [.int .u32 0], [.bool false], [.slice none 0 0], [.int .u32 0, .int .u32 0, .int .u32 0, .int .u32 0], rfl, ⟨rfl, by unfold I64; decide⟩, ⟨rfl, by decide⟩, rfl, ⟨none, 0, 0, rfl, rfl, Nat.le_refl _, by decide, fun i a h => by change none = some a at h; cases h⟩, ⟨rfl, rfl, fun x hx => by change x ∈ ([0, 0, 0, 0] : List Nat) at hx; have hx : x = 0 := (by simpa using hx); subst hx; decide⟩⟩⟩) (by rw [hp1]; rfl) hf1)
        have RM := Lib.hid (run_mk w1 40 189 (Value.agg #[.int .u64 0, .int .i64 0, .int .i64 0, .int .i64 0, .int .i64 0, .int .u32 0, .bool false, .slice none 0 0, .int .u32 0, .int .u32 0, .int .u32 0, .int .u32 0]) (lckK).sz 88 (by kernel_rfl) (by kernel_rfl) n (by omega) (by decide))
        have H2 := Lib.hid h2
        obtain ⟨ao, nn, cap, ha, hof⟩ := h1
        have c0 := ha.c0
        clear ha hof h2 h4 hp
        generalize w1.alloc (.cells (madeCells (Value.agg #[.int .u64 0, .int .i64 0, .int .i64 0, .int .i64 0, .int .i64 0, .int .u32 0, .bool false, .slice none 0 0, .int .u32 0, .int .u32 0, .int .u32 0, .int .u32 0]).cells (n * (lckK).sz)) 189) = w2 at *
        obtain ⟨xv, c2⟩ := Option.isSome_iff_exists.1 HLD.out.c2
        have f2 := HLD.out.f2
        have c3 := HLD.out.c3
        have b3 := HLD.out.b3.trans h3
        have hd : decide (0 < n) = true := decide_eq_true (by omega)
        go_wp2_with (at_make; refine wpList_runs rfl _ _ (exec_make (vl := .int .i64 (n : Int)) (vc := .int .i64 (n : Int)) 40 (.tmp 26) (.tmp 26) rfl rfl rfl RM.out) ?_)
        generalize w2.setCell ⟨g, o, none⟩ _ = w3 at *
        clear c0 h3 hp1 hf1 c2 f2 hd RM b3
        have HC3 := Lib.hid c3
        clear c3
        go_loopw [30] (fun i wr => ∃ (k : Nat) (lk : List Nat) (ys : List _), k ≤ n ∧ i = .int .i64 (k : Int) ∧ stepL (lckK).cod true ((List.replicate n (lckK).zero).take k) l' = some (lk, ys) ∧ lk.length ≤ l.length ∧ MidL true (fun b => P b ∨ b = g ∨ b = w.heap.size) (fun _ => False) gc sb f lk w1.heap.size 0 (lckK) (ys ++ List.replicate (n - k) (lckK).zero) w3 wr) (fun i _ => n - (intOf i).toNat)
        case atStart => exact ⟨0, l', [], by omega, rfl, rfl, HLL.out, HLD.out.mid⟩
        case round =>
          obtain ⟨k, lk, ys, hk, rfl, hst, hlk, hM⟩ := hrel
          have HM := Lib.hid hM
          have HST := Lib.hid hst
          have hp2 := (hM.safe.toSafe.cell (a := ⟨g, o, none⟩) (.inr (.inl rfl))).trans HC3.out
          have hyl : ys.length = k := by rw [stepL_len _ _ _ _ _ _ hst]; simp; omega
          have HYL := Lib.hid hyl
          have HSR := Lib.hid HLD.out.sz
          clear hM hst
          by_cases hlt : k < n
          · have hi : (ys ++ List.replicate (n - k) (lckK).zero)[k]? = some (lckK).zero := by
              rw [List.getElem?_append_right (by omega), hyl, Nat.sub_self, List.getElem?_replicate, if_pos (by omega)]
            have CALL := Lib.hid (HM.out.call lckK_okay.fine hE hi (fun _ => rfl) (fun b hb => hb.elim) (fun h => by cases h) (fun _ => ⟨(fun hb => by
              rcases hb with hb | hb | hb
              · have := HPO.out _ hb; have := H2.out.size; omega
              · have := H2.out.size; omega
              · omega), HLD.out.f3⟩) (by rw [HSR.out]; omega) (by have := H2.out.size; omega) (by have := HMM.out; omega))
            have HMORE := Lib.hid (stepL_more (lckK).cod true (x := List.replicate n (lckK).zero) (k := k) (a := (lckK).zero) (by rw [List.getElem?_replicate, if_pos hlt]) l')
            rw [HST.out] at HMORE
            rw [Nat.zero_add] at CALL
            clear hi hyl
            cases hs : step (lckK).cod true lk (lckK).zero with
            | none =>
              rw [hs] at CALL
              have hr0 : r = none := by
                rw [HR.out]
                refine stepL_none _ _ l' (k := k + 1) ?_
                have h9 := HMORE.out
                simp only [Option.bind_some, hs, Option.map_none] at h9
                exact h9
              clear hs HMORE
              subst hr0
              go_wp2_with fail
              refine CALL.out.mono ?_
              rintro e w' ⟨h8, a', h9, h10, rfl, h11⟩
              exact ⟨rfl, coded_gave (Gave.from ⟨a', h9, h10, rfl, h11⟩ (by have := H2.out.size; have := HSR.out; omega)) (((SafeK.of H2.out).trans ⟨HLD.out.s3, fun j hj => (by
                by_cases e : j = o
                · subst e; rw [HC3.out]; rfl
                · rw [HLD.out.ot j e]; exact hj), HLD.out.fz⟩).trans (SafeK.of (h8.toSafe.mono fun b hb => by
                rcases hb with hb | hb
                · exact .inl hb
                · exact .inr (.inl hb))))⟩
            | some p =>
              rw [hs] at CALL
              have HSH := Lib.hid (step_short hgood HM.out.cd.bytes hs)
              have HMORE2 : Hid (stepL (lckK).cod true ((List.replicate n (lckK).zero).take (k + 1)) l' = some (p.1, ys ++ [p.2])) := Lib.hid (by
                have h9 := HMORE.out
                simp only [Option.bind_some, hs, Option.map_some] at h9
                exact h9)
              clear hs HMORE
              go_wp2_with fail
              refine CALL.out.mono ?_
              rintro e w' ⟨rfl, hM2⟩
              have hM3 := hM2
              rw [set_mid _ _ _ _ _ HYL.out hlt] at hM3
              have HM2 := Lib.hid hM3
              clear hM2 hM3
              go_wp2_with fail
              go_roundw
              case rel => exact ⟨k + 1, p.1, ys ++ [p.2], by omega, by go_num, HMORE2.out, by have := HSH.out; omega, HM2.out⟩
              case measure => simp [intOf]; omega
          · obtain rfl : n = k := by omega
            have hr0 : r = some (lk, ys) := by
              rw [HR.out]
              have h9 := HST.out
              rwa [List.take_of_length_le (by simp)] at h9
            subst hr0
            clear hyl
            go_wp2_with fail
            go_end0
            have M := HM.out
            rw [Nat.sub_self, List.replicate_zero, List.append_nil] at M
            exact coded_listread lckK_okay.fine H2.out HLD.out.s3 hsrc hgc (Nat.le_refl _) (by rw [HSR.out]; omega) HC3.out HLD.out.ot HLD.out.fz HYL.out (by omega) M

end Go.Proofs.YtngcbpgafjnfaaaGreatDoor


namespace Go.Proofs.YtngcbpgafjnfaaaGreatDoor
open Go.RowKit Go.Sort
set_option linter.unusedVariables false

/-- pos -/
def posK : Kd Ps := ⟨posC, 2, ⟨0, 0⟩, fun w N cs a => ∃ c0 c1, cs = c0 ++ (c1) ∧ (natK .u64 8 18446744073709551615).is w N c0 a.hi ∧ (natK .u64 8 18446744073709551615).is w N c1 a.lo⟩
theorem posK_fine : posK.Fine := by
  refine ⟨fun w N cs a ha => ?_, fun w w' N P cs a ha hs hN => ?_, fun w N M cs a ha hm => ?_⟩
  · obtain ⟨c0, c1, rfl, h0, h1⟩ := ha
    have s0 := (natK_okay (kd := .u64) (size := 8) (most := 18446744073709551615) (by decide) (by decide)).fine.size _ _ _ _ h0; have s1 := (natK_okay (kd := .u64) (size := 8) (most := 18446744073709551615) (by decide) (by decide)).fine.size _ _ _ _ h1
    change c0.length = 1 at s0; change c1.length = 1 at s1
    show _ = 2
    simp only [List.length_append]; omega
  · obtain ⟨c0, c1, e, h0, h1⟩ := ha
    exact ⟨c0, c1, e, (natK_okay (kd := .u64) (size := 8) (most := 18446744073709551615) (by decide) (by decide)).fine.safe _ _ _ _ _ _ h0 hs hN, (natK_okay (kd := .u64) (size := 8) (most := 18446744073709551615) (by decide) (by decide)).fine.safe _ _ _ _ _ _ h1 hs hN⟩
  · obtain ⟨c0, c1, e, h0, h1⟩ := ha
    exact ⟨c0, c1, e, (natK_okay (kd := .u64) (size := 8) (most := 18446744073709551615) (by decide) (by decide)).fine.mono _ _ _ _ _ h0 hm, (natK_okay (kd := .u64) (size := 8) (most := 18446744073709551615) (by decide) (by decide)).fine.mono _ _ _ _ _ h1 hm⟩
theorem step_pos (md : Bool) (l : List Nat) (a : Ps) : step posC md l a = (step eight md l a.hi).bind fun p0 => (step eight md p0.1 a.lo).bind fun p1 => some (p1.1, ⟨p0.2, p1.2⟩) := by
  unfold posC
  rw [step_map _ _ _ _ _ _ (fun _ => rfl)]
  simp only [step_two, Option.map_bind, Option.bind_assoc, Option.bind_some, Option.map_some, Function.comp_def]
theorem posK_okay : posK.Okay 16 := ⟨posK_fine, pos_good, fun a ha => enc_len (c := posC) ha fun p hp => by
  rw [step_pos] at hp
  obtain ⟨p0, e0, hp⟩ := bind_some_of hp
  have t0 := okay_stepw (natK_okay (kd := .u64) (size := 8) (most := 18446744073709551615) (by decide) (by decide)) (show step (natK .u64 8 18446744073709551615).cod false _ _ = _ from e0)
  obtain ⟨p1, e1, hp⟩ := bind_some_of hp
  have t1 := okay_stepw (natK_okay (kd := .u64) (size := 8) (most := 18446744073709551615) (by decide) (by decide)) (show step (natK .u64 8 18446744073709551615).cod false _ _ = _ from e1)
  injection hp with hp
  subst hp
  simp at *
  omega⟩

set_option maxHeartbeats 8000000 in
theorem pos_codes : Codes 128 [] posK 16 := by
  intro md P N gc sb f l g o cs a w hcd hz his hcs hN hw hr hg hne hl
  obtain ⟨c0, c1, rfl, h0, h1⟩ := his
  have s0 := (natK_okay (kd := .u64) (size := 8) (most := 18446744073709551615) (by decide) (by decide)).fine.size _ _ _ _ h0; change c0.length = 1 at s0
  have s1 := (natK_okay (kd := .u64) (size := 8) (most := 18446744073709551615) (by decide) (by decide)).fine.size _ _ _ _ h1; change c1.length = 1 at s1
  have k0 := cells_left hcs; have r0 := cells_right hcs; rw [s0] at r0
  have k1 := r0
  have M0 := Lib.hid (Mid.start (sz := 2) hcd (show Slots w (Grow md N w w) g o [(natK .u64 8 18446744073709551615).slot 0 a.hi, (natK .u64 8 18446744073709551615).slot 1 a.lo] from ⟨⟨c0, (natK_okay (kd := .u64) (size := 8) (most := 18446744073709551615) (by decide) (by decide)).fine.mono _ _ (Grow md N w w) _ _ h0 (fun b hb => Or.inl hb), k0⟩, ⟨⟨c1, (natK_okay (kd := .u64) (size := 8) (most := 18446744073709551615) (by decide) (by decide)).fine.mono _ _ (Grow md N w w) _ _ h1 (fun b hb => Or.inl hb), k1⟩, trivial⟩⟩))
  have Z0 := Lib.hid (show md = true → a.hi = (natK .u64 8 18446744073709551615).zero from fun h => by rw [hz h]; rfl)
  have Z1 := Lib.hid (show md = true → a.lo = (natK .u64 8 18446744073709551615).zero from fun h => by rw [hz h]; rfl)
  show Calls _ _ #[.pointer (some ⟨gc, 0, none⟩), .pointer (some ⟨g, o, none⟩)] w (Coded md P N gc sb f g o posK w (step posC md l a))
  have HR := Lib.hid (step_pos md l a)
  generalize step posC md l a = r at *
  have HN := Lib.hid hN; have HW := Lib.hid hw; have HRD := Lib.hid hr
  clear hcd hz hcs hN hw hr h0 s0 k0 h1 s1 k1 r0
  go_enter Tryz.func128, Tryz.ntmps128
  have CALL := Lib.hid (M0.out.call (natK_okay (kd := .u64) (size := 8) (most := 18446744073709551615) (by decide) (by decide)).fine long_codes Z0.out HN.out HW.out HRD.out hg hne (by omega) (Nat.le_of_ble_eq_true rfl) trivial ⟨(natK_okay (kd := .u64) (size := 8) (most := 18446744073709551615) (by decide) (by decide)).fine.slot _ _, trivial⟩ trivial ⟨.inr (Nat.le_of_ble_eq_true rfl), trivial⟩)
  rw [Nat.add_zero] at CALL
  cases e0 : step (natK .u64 8 18446744073709551615).cod md l a.hi with
  | none =>
    rw [e0] at CALL
    have hr0 : r = none := by
      have h9 := HR.out
      change step eight md l a.hi = _ at e0; rw [e0] at h9; exact h9
    clear e0
    subst hr0
    go_wp2_with fail
    refine CALL.out.mono ?_
    rintro e w' ⟨h8, a', h9, h10, rfl, h11⟩
    exact ⟨rfl, coded_gave ⟨a', h9, h10, rfl, h11⟩ h8⟩
  | some p0 =>
    rw [e0] at CALL
    have hlen0 := (natK_okay (kd := .u64) (size := 8) (most := 18446744073709551615) (by decide) (by decide)).step M0.out.cd.bytes_of e0
    have E0 := Lib.hid e0
    clear e0
    go_wp2_with fail
    refine CALL.out.mono ?_
    rintro e w1 ⟨rfl, hM⟩
    have M1 := Lib.hid hM
    clear hM CALL
    have CALL := Lib.hid (M1.out.call (natK_okay (kd := .u64) (size := 8) (most := 18446744073709551615) (by decide) (by decide)).fine long_codes Z1.out HN.out HW.out HRD.out hg hne (by omega) (Nat.le_of_ble_eq_true rfl) ⟨(natK_okay (kd := .u64) (size := 8) (most := 18446744073709551615) (by decide) (by decide)).fine.slot _ _, trivial⟩ trivial ⟨.inl (Nat.le_of_ble_eq_true rfl), trivial⟩ trivial)
    cases e1 : step (natK .u64 8 18446744073709551615).cod md p0.1 a.lo with
    | none =>
      rw [e1] at CALL
      have hr0 : r = none := by
        have h9 := HR.out
        have hh0 := E0.out; change step eight md l a.hi = _ at hh0; rw [hh0] at h9; simp only [Option.bind_some] at h9
        change step eight md p0.1 a.lo = _ at e1; rw [e1] at h9; exact h9
      clear e1
      subst hr0
      go_wp2_with fail
      refine CALL.out.mono ?_
      rintro e w' ⟨h8, a', h9, h10, rfl, h11⟩
      exact ⟨rfl, coded_gave ⟨a', h9, h10, rfl, h11⟩ h8⟩
    | some p1 =>
      rw [e1] at CALL
      have hlen1 := (natK_okay (kd := .u64) (size := 8) (most := 18446744073709551615) (by decide) (by decide)).step M1.out.cd.bytes_of e1
      have E1 := Lib.hid e1
      clear e1
      go_wp2_with fail
      refine CALL.out.mono ?_
      rintro e w2 ⟨rfl, hM⟩
      have M2 := Lib.hid hM
      clear hM CALL
      have hr0 : r = some (p1.1, ⟨p0.2, p1.2⟩) := by
        have h9 := HR.out
        have hh0 := E0.out; change step eight md l a.hi = _ at hh0; rw [hh0] at h9; simp only [Option.bind_some] at h9
        have hh1 := E1.out; change step eight md p0.1 a.lo = _ at hh1; rw [hh1] at h9; simp only [Option.bind_some] at h9
        first | exact h9 | (rw [hb]; exact h9)
      subst hr0
      go_wp2_with fail
      go_end0
      have M := M2.out
      obtain ⟨⟨d1, q1, x1⟩, ⟨d0, q0, x0⟩, _⟩ := M.dn
      change (natK .u64 8 18446744073709551615).is w2 (Grow md N w w2) d0 p0.2 at q0
      have t0 := (natK_okay (kd := .u64) (size := 8) (most := 18446744073709551615) (by decide) (by decide)).fine.size _ _ _ _ q0; change d0.length = 1 at t0; change Cells _ g (o + 0) d0 at x0
      change (natK .u64 8 18446744073709551615).is w2 (Grow md N w w2) d1 p1.2 at q1
      have t1 := (natK_okay (kd := .u64) (size := 8) (most := 18446744073709551615) (by decide) (by decide)).fine.size _ _ _ _ q1; change d1.length = 1 at t1; change Cells _ g (o + 1) d1 at x1
      have y0 := cells_join x0 (show Cells _ g (o + 0 + d0.length) _ from by rw [t0, Nat.add_assoc]; exact x1)
      exact ⟨M.safe, rfl, M.cd, ⟨d0 ++ (d1), ⟨d0, d1, rfl, q0, q1⟩, by rw [Nat.add_zero] at y0; exact y0⟩, M.out, M.fz⟩

/-- per -/
def perK : Kd Per := ⟨perC, 3, ⟨0, ⟨0, 0⟩⟩, fun w N cs a => ∃ c0 c1, cs = c0 ++ (c1) ∧ (intK 1 255).is w N c0 a.node ∧ posK.is w N c1 a.pos⟩
theorem perK_fine : perK.Fine := by
  refine ⟨fun w N cs a ha => ?_, fun w w' N P cs a ha hs hN => ?_, fun w N M cs a ha hm => ?_⟩
  · obtain ⟨c0, c1, rfl, h0, h1⟩ := ha
    have s0 := (intK_okay (size := 1) (most := 255) (by decide) (by decide)).fine.size _ _ _ _ h0; have s1 := posK_okay.fine.size _ _ _ _ h1
    change c0.length = 1 at s0; change c1.length = 2 at s1
    show _ = 3
    simp only [List.length_append]; omega
  · obtain ⟨c0, c1, e, h0, h1⟩ := ha
    exact ⟨c0, c1, e, (intK_okay (size := 1) (most := 255) (by decide) (by decide)).fine.safe _ _ _ _ _ _ h0 hs hN, posK_okay.fine.safe _ _ _ _ _ _ h1 hs hN⟩
  · obtain ⟨c0, c1, e, h0, h1⟩ := ha
    exact ⟨c0, c1, e, (intK_okay (size := 1) (most := 255) (by decide) (by decide)).fine.mono _ _ _ _ _ h0 hm, posK_okay.fine.mono _ _ _ _ _ h1 hm⟩
theorem step_per (md : Bool) (l : List Nat) (a : Per) : step perC md l a = (step (whole 1 255) md l a.node).bind fun p0 => (step posC md p0.1 a.pos).bind fun p1 => some (p1.1, ⟨p0.2, p1.2⟩) := by
  unfold perC
  rw [step_map _ _ _ _ _ _ (fun _ => rfl)]
  simp only [step_two, Option.map_bind, Option.bind_assoc, Option.bind_some, Option.map_some, Function.comp_def]
theorem perK_okay : perK.Okay 24 := ⟨perK_fine, per_good, fun a ha => enc_len (c := perC) ha fun p hp => by
  rw [step_per] at hp
  obtain ⟨p0, e0, hp⟩ := bind_some_of hp
  have t0 := okay_stepw (intK_okay (size := 1) (most := 255) (by decide) (by decide)) (show step (intK 1 255).cod false _ _ = _ from e0)
  obtain ⟨p1, e1, hp⟩ := bind_some_of hp
  have t1 := okay_stepw posK_okay (show step posK.cod false _ _ = _ from e1)
  injection hp with hp
  subst hp
  simp at *
  omega⟩

set_option maxHeartbeats 8000000 in
theorem per_codes : Codes 132 [] perK 24 := by
  intro md P N gc sb f l g o cs a w hcd hz his hcs hN hw hr hg hne hl
  obtain ⟨c0, c1, rfl, h0, h1⟩ := his
  have s0 := (intK_okay (size := 1) (most := 255) (by decide) (by decide)).fine.size _ _ _ _ h0; change c0.length = 1 at s0
  have s1 := posK_okay.fine.size _ _ _ _ h1; change c1.length = 2 at s1
  have k0 := cells_left hcs; have r0 := cells_right hcs; rw [s0] at r0
  have k1 := r0
  have M0 := Lib.hid (Mid.start (sz := 3) hcd (show Slots w (Grow md N w w) g o [(intK 1 255).slot 0 a.node, posK.slot 1 a.pos] from ⟨⟨c0, (intK_okay (size := 1) (most := 255) (by decide) (by decide)).fine.mono _ _ (Grow md N w w) _ _ h0 (fun b hb => Or.inl hb), k0⟩, ⟨⟨c1, posK_okay.fine.mono _ _ (Grow md N w w) _ _ h1 (fun b hb => Or.inl hb), k1⟩, trivial⟩⟩))
  have Z0 := Lib.hid (show md = true → a.node = (intK 1 255).zero from fun h => by rw [hz h]; rfl)
  have Z1 := Lib.hid (show md = true → a.pos = posK.zero from fun h => by rw [hz h]; rfl)
  show Calls _ _ #[.pointer (some ⟨gc, 0, none⟩), .pointer (some ⟨g, o, none⟩)] w (Coded md P N gc sb f g o perK w (step perC md l a))
  have HR := Lib.hid (step_per md l a)
  generalize step perC md l a = r at *
  have HN := Lib.hid hN; have HW := Lib.hid hw; have HRD := Lib.hid hr
  clear hcd hz hcs hN hw hr h0 s0 k0 h1 s1 k1 r0
  go_enter Tryz.func132, Tryz.ntmps132
  have CALL := Lib.hid (M0.out.call (intK_okay (size := 1) (most := 255) (by decide) (by decide)).fine octet_codes Z0.out HN.out HW.out HRD.out hg hne (by omega) (Nat.le_of_ble_eq_true rfl) trivial ⟨posK_okay.fine.slot _ _, trivial⟩ trivial ⟨.inr (Nat.le_of_ble_eq_true rfl), trivial⟩)
  rw [Nat.add_zero] at CALL
  cases e0 : step (intK 1 255).cod md l a.node with
  | none =>
    rw [e0] at CALL
    have hr0 : r = none := by
      have h9 := HR.out
      change step (whole 1 255) md l a.node = _ at e0; rw [e0] at h9; exact h9
    clear e0
    subst hr0
    go_wp2_with fail
    refine CALL.out.mono ?_
    rintro e w' ⟨h8, a', h9, h10, rfl, h11⟩
    exact ⟨rfl, coded_gave ⟨a', h9, h10, rfl, h11⟩ h8⟩
  | some p0 =>
    rw [e0] at CALL
    have hlen0 := (intK_okay (size := 1) (most := 255) (by decide) (by decide)).step M0.out.cd.bytes_of e0
    have E0 := Lib.hid e0
    clear e0
    go_wp2_with fail
    refine CALL.out.mono ?_
    rintro e w1 ⟨rfl, hM⟩
    have M1 := Lib.hid hM
    clear hM CALL
    have CALL := Lib.hid (M1.out.call posK_okay.fine pos_codes Z1.out HN.out HW.out HRD.out hg hne (by omega) (Nat.le_of_ble_eq_true rfl) ⟨(intK_okay (size := 1) (most := 255) (by decide) (by decide)).fine.slot _ _, trivial⟩ trivial ⟨.inl (Nat.le_of_ble_eq_true rfl), trivial⟩ trivial)
    cases e1 : step posK.cod md p0.1 a.pos with
    | none =>
      rw [e1] at CALL
      have hr0 : r = none := by
        have h9 := HR.out
        have hh0 := E0.out; change step (whole 1 255) md l a.node = _ at hh0; rw [hh0] at h9; simp only [Option.bind_some] at h9
        change step posC md p0.1 a.pos = _ at e1; rw [e1] at h9; exact h9
      clear e1
      subst hr0
      go_wp2_with fail
      refine CALL.out.mono ?_
      rintro e w' ⟨h8, a', h9, h10, rfl, h11⟩
      exact ⟨rfl, coded_gave ⟨a', h9, h10, rfl, h11⟩ h8⟩
    | some p1 =>
      rw [e1] at CALL
      have hlen1 := posK_okay.step M1.out.cd.bytes_of e1
      have E1 := Lib.hid e1
      clear e1
      go_wp2_with fail
      refine CALL.out.mono ?_
      rintro e w2 ⟨rfl, hM⟩
      have M2 := Lib.hid hM
      clear hM CALL
      have hr0 : r = some (p1.1, ⟨p0.2, p1.2⟩) := by
        have h9 := HR.out
        have hh0 := E0.out; change step (whole 1 255) md l a.node = _ at hh0; rw [hh0] at h9; simp only [Option.bind_some] at h9
        have hh1 := E1.out; change step posC md p0.1 a.pos = _ at hh1; rw [hh1] at h9; simp only [Option.bind_some] at h9
        first | exact h9 | (rw [hb]; exact h9)
      subst hr0
      go_wp2_with fail
      go_end0
      have M := M2.out
      obtain ⟨⟨d1, q1, x1⟩, ⟨d0, q0, x0⟩, _⟩ := M.dn
      change (intK 1 255).is w2 (Grow md N w w2) d0 p0.2 at q0
      have t0 := (intK_okay (size := 1) (most := 255) (by decide) (by decide)).fine.size _ _ _ _ q0; change d0.length = 1 at t0; change Cells _ g (o + 0) d0 at x0
      change posK.is w2 (Grow md N w w2) d1 p1.2 at q1
      have t1 := posK_okay.fine.size _ _ _ _ q1; change d1.length = 2 at t1; change Cells _ g (o + 1) d1 at x1
      have y0 := cells_join x0 (show Cells _ g (o + 0 + d0.length) _ from by rw [t0, Nat.add_assoc]; exact x1)
      exact ⟨M.safe, rfl, M.cd, ⟨d0 ++ (d1), ⟨d0, d1, rfl, q0, q1⟩, by rw [Nat.add_zero] at y0; exact y0⟩, M.out, M.fz⟩

set_option maxHeartbeats 16000000 in
theorem listper_codes (mx : Nat) (hlen : ∀ a, (perK).cod.ok a = true → ((perK).cod.enc a).length ≤ mx) (hgood : Good (perK).cod) (hE : Codes 132 [] (perK) mx) (max : Nat) (hm : max ≤ 255) : Codes 131 [.int .u64 (max : Int), .func (.func 132) #[] #[]] (listK (perK) max) (8 + max * mx) := by
  intro md P N gc sb f l g o cs xs w hcd hz his hcs hN hw hr hg hne hl
  obtain ⟨ao0, n0, cap0, rfl, hsl⟩ := his
  have hp := hcs 0 _ rfl
  simp only [Nat.add_zero] at hp
  have hn0 : n0 ≤ 9223372036854775807 := Nat.le_trans hsl.2.1 hsl.2.2.1
  have hxs := hsl.1
  have HCAP := Lib.hid hsl.2.2.1
  have hz0 : md = true → n0 = 0 := fun h => by rw [← hxs, hz h]; rfl
  have NB := Lib.hid (boxnum hcd hg hne hw n0 hn0 hz0 max hm (by omega))
  show Calls _ _ #[.pointer (some ⟨gc, 0, none⟩), .pointer (some ⟨g, o, none⟩), .int .u64 (max : Int), .func (.func 132) #[] #[]] w (Coded md P N gc sb f g o (listK (perK) max) w (step (list max (perK).cod) md l xs))
  have HR := Lib.hid (step_list (perK).cod md max (perK).zero xs l)
  rw [hxs] at HR
  generalize hrr : step (list max (perK).cod) md l xs = r at *
  clear hrr
  have hgc := hcd.lt
  have HNP := Lib.hid hN
  have HPO := Lib.hid (fun b (hb : P b) => hcd.off hb)
  cases md
  · have HE := Lib.hid (fun l' w' hcd' hs' => coded_wrote (sb := sb) (f := f) (gc := gc) (l' := l') (listK_fine perK_okay.fine max) (w' := w') hcd' hs' (hw rfl) hN ⟨ao0, n0, cap0, rfl, hsl⟩ hcs)
    obtain ⟨g2, o2, hsn, hat⟩ := sl_at hsl
    have HAT := Lib.hid hat
    clear hat
    by_cases hok : n0 ≤ max
    · rw [num_w hok] at NB HR
      simp only [Option.bind_some, Bool.false_eq_true, if_false] at HR
      clear hz hcs hN hw hr hcd hz0 hsl
      go_enter Tryz.func131, Tryz.ntmps131
      go_wp2_with fail
      refine NB.out.mono ?_
      rintro e w1 ⟨rfl, h1, h2, h3, h4, h5⟩
      have h1 : CdIs w1 false (fun b => P b ∨ b = g ∨ b = w.heap.size) gc sb f (l ++ le 1 n0) := h1
      have h3 : w1.cell? ⟨w.heap.size, 0, none⟩ = some (.int .i64 (n0 : Int)) := h3
      have hp1 := (h2.cell (a := ⟨g, o, none⟩) (.inr rfl)).trans hp
      have H2 := Lib.hid h2
      have M0 := Lib.hid (MidL.start (k := perK) (N := N) (g := g2) (o := o2) (xs := xs) h1 (fun i a hi => by
        obtain ⟨cs, q1, q2⟩ := HAT.out i a hi
        have hn : 0 < n0 := by have := (List.getElem?_eq_some_iff.1 hi).1; omega
        exact ⟨cs, perK_okay.fine.mono _ _ _ _ _ (perK_okay.fine.safe _ _ _ _ _ _ q1 (h2.mono fun b hb => .inl hb) HNP.out) (fun b hb => .inl hb), q2.safe h2 (.inl (HNP.out _ (hsn hn).2))⟩))
      have HSZ := Lib.hid (show w.heap.size ≤ w1.heap.size from h2.size)
      have HPG := Lib.hid hp1
      have hcc := h1
      obtain ⟨ao, n, cap, ha, hof⟩ := h1
      have c0 := ha.c0
      have HL0 := Lib.hid (show (l ++ le 1 n0).length = l.length + 1 by simp [le_length])
      clear ha hof h2 h4 hp hp1 hcc
      generalize l ++ le 1 n0 = l1 at *
      go_wp2_with fail
      clear c0 h3
      go_loopw [30] (fun i wr => ∃ (k : Nat) (lk : List Nat), k ≤ n0 ∧ i = .int .i64 (k : Int) ∧ stepL (perK).cod false (xs.take k) l1 = some (lk, xs.take k) ∧ lk.length ≤ l.length + 1 + k * mx ∧ MidL false (fun b => P b ∨ b = g ∨ b = w.heap.size) N gc sb f lk g2 o2 (perK) xs w1 wr) (fun i _ => n0 - (intOf i).toNat)
      case atStart => exact ⟨0, l1, by omega, rfl, rfl, by rw [HL0.out]; omega, M0.out⟩
      case round =>
        obtain ⟨k, lk, hk, rfl, hst, hlk, hM⟩ := hrel
        have HM := Lib.hid hM
        have HST := Lib.hid hst
        have hp2 := (hM.safe.toSafe.cell (a := ⟨g, o, none⟩) (.inr (.inl rfl))).trans HPG.out
        clear hM hst
        by_cases hlt : k < n0
        · have hi : xs[k]? = some (xs[k]'(by omega)) := List.getElem?_eq_getElem (by omega)
          generalize xs[k]'(by omega) = a at hi
          have HI := Lib.hid hi
          obtain ⟨hao, hNg⟩ := hsn (by omega)
          have hkm : (k + 1) * mx ≤ max * mx := Nat.mul_le_mul_right _ (by omega)
          rw [Nat.succ_mul] at hkm
          have CALL := Lib.hid (HM.out.call perK_okay.fine hE hi (fun h => by cases h) (fun b hb => .inl (HNP.out b hb)) (fun _ => .inl (HNP.out _ hNg)) (fun h => by cases h) (Nat.lt_of_lt_of_le (HPO.out _ (HNP.out _ hNg)).1 HSZ.out) (HPO.out _ (HNP.out _ hNg)).2 (by omega))
          have HMORE := Lib.hid (stepL_more (perK).cod false hi l1)
          rw [HST.out] at HMORE
          subst hao
          clear hi
          cases hs : step (perK).cod false lk a with
          | none =>
            rw [hs] at CALL
            have hr0 : r = none := by
              rw [HR.out]
              refine stepL_none _ _ l1 (k := k + 1) ?_
              have h9 := HMORE.out
              simp only [Option.bind_some, hs, Option.map_none] at h9
              exact h9
            clear hs HMORE
            subst hr0
            go_wp2_with fail
            refine CALL.out.mono ?_
            rintro e w' ⟨h8, a', h9, h10, rfl, h11⟩
            exact ⟨rfl, coded_gave (Gave.from ⟨a', h9, h10, rfl, h11⟩ HSZ.out) ((SafeK.of H2.out).trans (SafeK.of (h8.toSafe.mono fun b hb => by
              rcases hb with hb | hb
              · exact .inl hb
              · exact .inr (.inl hb))))⟩
          | some p =>
            rw [hs] at CALL
            have HS := Lib.hid hs
            clear hs
            go_wp2_with fail
            refine CALL.out.mono ?_
            rintro e w' ⟨rfl, hM2⟩
            have HM2 := Lib.hid (midl_wrote HI.out HS.out hM2)
            clear hM2
            go_wp2_with fail
            go_roundw
            case rel =>
              refine ⟨k + 1, p.1, by omega, by go_num, ?_, ?_, HM2.out⟩
              · have h9 := HMORE.out
                have h10 := HS.out
                rw [step_w] at h10
                split at h10
                · injection h10 with h10
                  subst h10
                  rename_i hk2
                  simp only [Option.bind_some, step_w, hk2, if_true, Option.map_some] at h9
                  rw [h9, List.take_add_one, HI.out]; rfl
                · cases h10
              · have h10 := HS.out
                rw [step_w] at h10
                split at h10
                · injection h10 with h10
                  subst h10
                  rename_i hk2
                  have := hlen a hk2
                  simp only [List.length_append, Nat.succ_mul]
                  omega
                · cases h10
            case measure => simp [intOf]; omega
        · obtain rfl : n0 = k := by omega
          have hr0 : r = some (lk, xs) := by
            rw [HR.out]
            have h9 := HST.out
            rwa [List.take_of_length_le (by omega)] at h9
          subst hr0
          go_wp2_with fail
          go_end0
          exact HE.out _ _ (HM.out.cd.reP (fun hm => by cases hm) fun b hb => .inl (.inl (.inl hb))) ((H2.out.mono fun b hb => .inl hb).trans (HM.out.safe.toSafe.mono fun b hb => .inl hb))
    · rw [num_w_no (by omega)] at NB HR
      simp only [Option.bind_none] at HR
      have hr0 : r = none := HR.out
      subst hr0
      clear hz hcs hN hw hr hcd hz0 hsl
      go_enter Tryz.func131, Tryz.ntmps131
      go_wp2_with fail
      refine NB.out.mono ?_
      rintro e w1 ⟨hs, a, h1, h2, rfl, h3⟩
      exact ⟨rfl, coded_gave ⟨a, h1, h2, rfl, h3⟩ hs⟩
  · have hf0 := (hr rfl).2 o
    have hsrc := hcd.src
    have hnP := (hr rfl).1
    have hl0 := hcd.bytes
    obtain rfl : xs = [] := hz rfl
    obtain rfl : n0 = 0 := hz0 rfl
    clear hz hcs hN hw hr hcd hz0 hsl
    cases hst : step (num' 1 max) true l 0 with
    | none =>
      rw [hst] at NB HR
      simp only [Option.bind_none] at HR
      have hr0 : r = none := HR.out
      subst hr0
      clear hst
      go_enter Tryz.func131, Tryz.ntmps131
      go_wp2_with fail
      refine NB.out.mono ?_
      rintro e w1 ⟨hs, a, h1, h2, rfl, h3⟩
      exact ⟨rfl, coded_gave ⟨a, h1, h2, rfl, h3⟩ hs⟩
    | some p =>
      obtain ⟨l', n⟩ := p
      obtain ⟨hnm, hll⟩ := num_r_le hst
      rw [hst] at NB HR
      simp only [Option.bind_some, if_true] at HR
      clear hst
      by_cases hn : n = 0
      · subst hn
        have hr0 : r = some (l', []) := HR.out
        subst hr0
        go_enter Tryz.func131, Tryz.ntmps131
        go_wp2_with fail
        refine NB.out.mono ?_
        rintro e w1 ⟨rfl, h1, h2, h3, h4, h5⟩
        have h1 : CdIs w1 true (fun b => P b ∨ b = g ∨ b = w.heap.size) gc sb f l' := h1
        have h3 : w1.cell? ⟨w.heap.size, 0, none⟩ = some (.int .i64 0) := h3
        have hp1 := (h2.cell (a := ⟨g, o, none⟩) (.inr rfl)).trans hp
        have HE := Lib.hid (Coded.from (N := N) (listK_fine perK_okay.fine max) (coded_keep (N := N) (k := listK (perK) max) (g := g) (o := o) (a := []) (cs := [.slice ao0 0 cap0]) (listK_fine perK_okay.fine max) h1 (fun b hb => .inl hb) hsrc ⟨ao0, 0, cap0, rfl, rfl, Nat.zero_le _, HCAP.out, fun i a hi => by simp at hi⟩ (fun j u hu => by
          obtain rfl : j = 0 := by
            have := (List.getElem?_eq_some_iff.1 hu).1
            simp at this; exact this
          obtain rfl : Value.slice ao0 0 cap0 = u := by simpa using hu
          exact hp1)) h2 hgc)
        obtain ⟨ao, nn, cap, ha, hof⟩ := h1
        have c0 := ha.c0
        clear ha hof h2 h4 hp hp1
        go_wp2_with fail
        go_loopw [30] (fun i wr => i = .int .i64 0 ∧ wr = w1) (fun _ _ => 0)
        case atStart => exact ⟨rfl, rfl⟩
        case round =>
          obtain ⟨rfl, rfl⟩ := hrel
          go_wp2_with fail
          go_end0
          exact HE.out
      · have hn1 : 1 ≤ n := by omega
        clear hn
        have HMM := Lib.hid (show mx ≤ max * mx from Nat.le_mul_of_pos_left _ (by omega))
        have HLL := Lib.hid hll
        clear hll
        go_enter Tryz.func131, Tryz.ntmps131
        go_wp2_with fail
        refine NB.out.mono ?_
        rintro e w1 ⟨rfl, h1, h2, h3, h4, h5⟩
        have h1 : CdIs w1 true (fun b => P b ∨ b = g ∨ b = w.heap.size) gc sb f l' := h1
        have h3 : w1.cell? ⟨w.heap.size, 0, none⟩ = some (.int .i64 (n : Int)) := h3
        have hp1 := (h2.cell (a := ⟨g, o, none⟩) (.inr rfl)).trans hp
        have hf1 : w1.frozen? ⟨g, o, none⟩ = false := (World.frozen?_of_block (w := w) (a := ⟨g, o, none⟩) (h2.block g (.inr rfl))).trans hf0
        have HLD := Lib.hid (laid_of (o := o) (n := n) (k := perK) h1 hsrc hnP hne hg hgc h5 (Value.agg #[.int .i64 0, .int .u64 0, .int .u64 0]) 135 _ rfl rfl (fun w N => ⟨[.int .i64 0], [.int .u64 0, .int .u64 0], rfl, ⟨rfl, by unfold I64; decide⟩, ⟨[.int .u64 0], [.int .u64 0], rfl, ⟨rfl, by decide⟩, ⟨rfl, by decide⟩⟩⟩) (by rw [hp1]; rfl) hf1)
        have RM := Lib.hid (run_mk w1 50 135 (Value.agg #[.int .i64 0, .int .u64 0, .int .u64 0]) (perK).sz 24 (by kernel_rfl) (by kernel_rfl) n (by omega) (by decide))
        have H2 := Lib.hid h2
        obtain ⟨ao, nn, cap, ha, hof⟩ := h1
        have c0 := ha.c0
        clear ha hof h2 h4 hp
        generalize w1.alloc (.cells (madeCells (Value.agg #[.int .i64 0, .int .u64 0, .int .u64 0]).cells (n * (perK).sz)) 135) = w2 at *
        obtain ⟨xv, c2⟩ := Option.isSome_iff_exists.1 HLD.out.c2
        have f2 := HLD.out.f2
        have c3 := HLD.out.c3
        have b3 := HLD.out.b3.trans h3
        have hd : decide (0 < n) = true := decide_eq_true (by omega)
        go_wp2_with (at_make; refine wpList_runs rfl _ _ (exec_make (vl := .int .i64 (n : Int)) (vc := .int .i64 (n : Int)) 50 (.tmp 26) (.tmp 26) rfl rfl rfl RM.out) ?_)
        generalize w2.setCell ⟨g, o, none⟩ _ = w3 at *
        clear c0 h3 hp1 hf1 c2 f2 hd RM b3
        have HC3 := Lib.hid c3
        clear c3
        go_loopw [30] (fun i wr => ∃ (k : Nat) (lk : List Nat) (ys : List _), k ≤ n ∧ i = .int .i64 (k : Int) ∧ stepL (perK).cod true ((List.replicate n (perK).zero).take k) l' = some (lk, ys) ∧ lk.length ≤ l.length ∧ MidL true (fun b => P b ∨ b = g ∨ b = w.heap.size) (fun _ => False) gc sb f lk w1.heap.size 0 (perK) (ys ++ List.replicate (n - k) (perK).zero) w3 wr) (fun i _ => n - (intOf i).toNat)
        case atStart => exact ⟨0, l', [], by omega, rfl, rfl, HLL.out, HLD.out.mid⟩
        case round =>
          obtain ⟨k, lk, ys, hk, rfl, hst, hlk, hM⟩ := hrel
          have HM := Lib.hid hM
          have HST := Lib.hid hst
          have hp2 := (hM.safe.toSafe.cell (a := ⟨g, o, none⟩) (.inr (.inl rfl))).trans HC3.out
          have hyl : ys.length = k := by rw [stepL_len _ _ _ _ _ _ hst]; simp; omega
          have HYL := Lib.hid hyl
          have HSR := Lib.hid HLD.out.sz
          clear hM hst
          by_cases hlt : k < n
          · have hi : (ys ++ List.replicate (n - k) (perK).zero)[k]? = some (perK).zero := by
              rw [List.getElem?_append_right (by omega), hyl, Nat.sub_self, List.getElem?_replicate, if_pos (by omega)]
            have CALL := Lib.hid (HM.out.call perK_okay.fine hE hi (fun _ => rfl) (fun b hb => hb.elim) (fun h => by cases h) (fun _ => ⟨(fun hb => by
              rcases hb with hb | hb | hb
              · have := HPO.out _ hb; have := H2.out.size; omega
              · have := H2.out.size; omega
              · omega), HLD.out.f3⟩) (by rw [HSR.out]; omega) (by have := H2.out.size; omega) (by have := HMM.out; omega))
            have HMORE := Lib.hid (stepL_more (perK).cod true (x := List.replicate n (perK).zero) (k := k) (a := (perK).zero) (by rw [List.getElem?_replicate, if_pos hlt]) l')
            rw [HST.out] at HMORE
            rw [Nat.zero_add] at CALL
            clear hi hyl
            cases hs : step (perK).cod true lk (perK).zero with
            | none =>
              rw [hs] at CALL
              have hr0 : r = none := by
                rw [HR.out]
                refine stepL_none _ _ l' (k := k + 1) ?_
                have h9 := HMORE.out
                simp only [Option.bind_some, hs, Option.map_none] at h9
                exact h9
              clear hs HMORE
              subst hr0
              go_wp2_with fail
              refine CALL.out.mono ?_
              rintro e w' ⟨h8, a', h9, h10, rfl, h11⟩
              exact ⟨rfl, coded_gave (Gave.from ⟨a', h9, h10, rfl, h11⟩ (by have := H2.out.size; have := HSR.out; omega)) (((SafeK.of H2.out).trans ⟨HLD.out.s3, fun j hj => (by
                by_cases e : j = o
                · subst e; rw [HC3.out]; rfl
                · rw [HLD.out.ot j e]; exact hj), HLD.out.fz⟩).trans (SafeK.of (h8.toSafe.mono fun b hb => by
                rcases hb with hb | hb
                · exact .inl hb
                · exact .inr (.inl hb))))⟩
            | some p =>
              rw [hs] at CALL
              have HSH := Lib.hid (step_short hgood HM.out.cd.bytes hs)
              have HMORE2 : Hid (stepL (perK).cod true ((List.replicate n (perK).zero).take (k + 1)) l' = some (p.1, ys ++ [p.2])) := Lib.hid (by
                have h9 := HMORE.out
                simp only [Option.bind_some, hs, Option.map_some] at h9
                exact h9)
              clear hs HMORE
              go_wp2_with fail
              refine CALL.out.mono ?_
              rintro e w' ⟨rfl, hM2⟩
              have hM3 := hM2
              rw [set_mid _ _ _ _ _ HYL.out hlt] at hM3
              have HM2 := Lib.hid hM3
              clear hM2 hM3
              go_wp2_with fail
              go_roundw
              case rel => exact ⟨k + 1, p.1, ys ++ [p.2], by omega, by go_num, HMORE2.out, by have := HSH.out; omega, HM2.out⟩
              case measure => simp [intOf]; omega
          · obtain rfl : n = k := by omega
            have hr0 : r = some (lk, ys) := by
              rw [HR.out]
              have h9 := HST.out
              rwa [List.take_of_length_le (by simp)] at h9
            subst hr0
            clear hyl
            go_wp2_with fail
            go_end0
            have M := HM.out
            rw [Nat.sub_self, List.replicate_zero, List.append_nil] at M
            exact coded_listread perK_okay.fine H2.out HLD.out.s3 hsrc hgc (Nat.le_refl _) (by rw [HSR.out]; omega) HC3.out HLD.out.ot HLD.out.fz HYL.out (by omega) M

/-- arc -/
def arcK : Kd Rc := ⟨arcC, 2, ⟨0, 0⟩, fun w N cs a => ∃ c0 c1, cs = c0 ++ (c1) ∧ (intK 1 63).is w N c0 a.size0 ∧ (intK 1 64).is w N c1 a.size⟩
theorem arcK_fine : arcK.Fine := by
  refine ⟨fun w N cs a ha => ?_, fun w w' N P cs a ha hs hN => ?_, fun w N M cs a ha hm => ?_⟩
  · obtain ⟨c0, c1, rfl, h0, h1⟩ := ha
    have s0 := (intK_okay (size := 1) (most := 63) (by decide) (by decide)).fine.size _ _ _ _ h0; have s1 := (intK_okay (size := 1) (most := 64) (by decide) (by decide)).fine.size _ _ _ _ h1
    change c0.length = 1 at s0; change c1.length = 1 at s1
    show _ = 2
    simp only [List.length_append]; omega
  · obtain ⟨c0, c1, e, h0, h1⟩ := ha
    exact ⟨c0, c1, e, (intK_okay (size := 1) (most := 63) (by decide) (by decide)).fine.safe _ _ _ _ _ _ h0 hs hN, (intK_okay (size := 1) (most := 64) (by decide) (by decide)).fine.safe _ _ _ _ _ _ h1 hs hN⟩
  · obtain ⟨c0, c1, e, h0, h1⟩ := ha
    exact ⟨c0, c1, e, (intK_okay (size := 1) (most := 63) (by decide) (by decide)).fine.mono _ _ _ _ _ h0 hm, (intK_okay (size := 1) (most := 64) (by decide) (by decide)).fine.mono _ _ _ _ _ h1 hm⟩
theorem step_arc (md : Bool) (l : List Nat) (a : Rc) : step arcC md l a = (step (whole 1 63) md l a.size0).bind fun p0 => (step (whole 1 64) md p0.1 a.size).bind fun p1 => some (p1.1, ⟨p0.2, p1.2⟩) := by
  unfold arcC
  rw [step_map _ _ _ _ _ _ (fun _ => rfl)]
  simp only [step_two, Option.map_bind, Option.bind_assoc, Option.bind_some, Option.map_some, Function.comp_def]
theorem arcK_okay : arcK.Okay 16 := ⟨arcK_fine, arc_good, fun a ha => enc_len (c := arcC) ha fun p hp => by
  rw [step_arc] at hp
  obtain ⟨p0, e0, hp⟩ := bind_some_of hp
  have t0 := okay_stepw (intK_okay (size := 1) (most := 63) (by decide) (by decide)) (show step (intK 1 63).cod false _ _ = _ from e0)
  obtain ⟨p1, e1, hp⟩ := bind_some_of hp
  have t1 := okay_stepw (intK_okay (size := 1) (most := 64) (by decide) (by decide)) (show step (intK 1 64).cod false _ _ = _ from e1)
  injection hp with hp
  subst hp
  simp at *
  omega⟩

set_option maxHeartbeats 8000000 in
theorem arc_codes : Codes 87 [] arcK 16 := by
  intro md P N gc sb f l g o cs a w hcd hz his hcs hN hw hr hg hne hl
  obtain ⟨c0, c1, rfl, h0, h1⟩ := his
  have s0 := (intK_okay (size := 1) (most := 63) (by decide) (by decide)).fine.size _ _ _ _ h0; change c0.length = 1 at s0
  have s1 := (intK_okay (size := 1) (most := 64) (by decide) (by decide)).fine.size _ _ _ _ h1; change c1.length = 1 at s1
  have k0 := cells_left hcs; have r0 := cells_right hcs; rw [s0] at r0
  have k1 := r0
  have M0 := Lib.hid (Mid.start (sz := 2) hcd (show Slots w (Grow md N w w) g o [(intK 1 63).slot 0 a.size0, (intK 1 64).slot 1 a.size] from ⟨⟨c0, (intK_okay (size := 1) (most := 63) (by decide) (by decide)).fine.mono _ _ (Grow md N w w) _ _ h0 (fun b hb => Or.inl hb), k0⟩, ⟨⟨c1, (intK_okay (size := 1) (most := 64) (by decide) (by decide)).fine.mono _ _ (Grow md N w w) _ _ h1 (fun b hb => Or.inl hb), k1⟩, trivial⟩⟩))
  have Z0 := Lib.hid (show md = true → a.size0 = (intK 1 63).zero from fun h => by rw [hz h]; rfl)
  have Z1 := Lib.hid (show md = true → a.size = (intK 1 64).zero from fun h => by rw [hz h]; rfl)
  show Calls _ _ #[.pointer (some ⟨gc, 0, none⟩), .pointer (some ⟨g, o, none⟩)] w (Coded md P N gc sb f g o arcK w (step arcC md l a))
  have HR := Lib.hid (step_arc md l a)
  generalize step arcC md l a = r at *
  have HN := Lib.hid hN; have HW := Lib.hid hw; have HRD := Lib.hid hr
  clear hcd hz hcs hN hw hr h0 s0 k0 h1 s1 k1 r0
  go_enter Tryz.func87, Tryz.ntmps87
  have CALL := Lib.hid (M0.out.call (intK_okay (size := 1) (most := 63) (by decide) (by decide)).fine (show Codes _ [.int .i64 1, .int .u64 63] _ _ from numint_codes 1 63 (by decide) (by decide)) Z0.out HN.out HW.out HRD.out hg hne (by omega) (Nat.le_of_ble_eq_true rfl) trivial ⟨(intK_okay (size := 1) (most := 64) (by decide) (by decide)).fine.slot _ _, trivial⟩ trivial ⟨.inr (Nat.le_of_ble_eq_true rfl), trivial⟩)
  rw [Nat.add_zero] at CALL
  cases e0 : step (intK 1 63).cod md l a.size0 with
  | none =>
    rw [e0] at CALL
    have hr0 : r = none := by
      have h9 := HR.out
      change step (whole 1 63) md l a.size0 = _ at e0; rw [e0] at h9; exact h9
    clear e0
    subst hr0
    go_wp2_with fail
    refine CALL.out.mono ?_
    rintro e w' ⟨h8, a', h9, h10, rfl, h11⟩
    exact ⟨rfl, coded_gave ⟨a', h9, h10, rfl, h11⟩ h8⟩
  | some p0 =>
    rw [e0] at CALL
    have hlen0 := (intK_okay (size := 1) (most := 63) (by decide) (by decide)).step M0.out.cd.bytes_of e0
    have E0 := Lib.hid e0
    clear e0
    go_wp2_with fail
    refine CALL.out.mono ?_
    rintro e w1 ⟨rfl, hM⟩
    have M1 := Lib.hid hM
    clear hM CALL
    have CALL := Lib.hid (M1.out.call (intK_okay (size := 1) (most := 64) (by decide) (by decide)).fine (show Codes _ [.int .i64 1, .int .u64 64] _ _ from numint_codes 1 64 (by decide) (by decide)) Z1.out HN.out HW.out HRD.out hg hne (by omega) (Nat.le_of_ble_eq_true rfl) ⟨(intK_okay (size := 1) (most := 63) (by decide) (by decide)).fine.slot _ _, trivial⟩ trivial ⟨.inl (Nat.le_of_ble_eq_true rfl), trivial⟩ trivial)
    cases e1 : step (intK 1 64).cod md p0.1 a.size with
    | none =>
      rw [e1] at CALL
      have hr0 : r = none := by
        have h9 := HR.out
        have hh0 := E0.out; change step (whole 1 63) md l a.size0 = _ at hh0; rw [hh0] at h9; simp only [Option.bind_some] at h9
        change step (whole 1 64) md p0.1 a.size = _ at e1; rw [e1] at h9; exact h9
      clear e1
      subst hr0
      go_wp2_with fail
      refine CALL.out.mono ?_
      rintro e w' ⟨h8, a', h9, h10, rfl, h11⟩
      exact ⟨rfl, coded_gave ⟨a', h9, h10, rfl, h11⟩ h8⟩
    | some p1 =>
      rw [e1] at CALL
      have hlen1 := (intK_okay (size := 1) (most := 64) (by decide) (by decide)).step M1.out.cd.bytes_of e1
      have E1 := Lib.hid e1
      clear e1
      go_wp2_with fail
      refine CALL.out.mono ?_
      rintro e w2 ⟨rfl, hM⟩
      have M2 := Lib.hid hM
      clear hM CALL
      have hr0 : r = some (p1.1, ⟨p0.2, p1.2⟩) := by
        have h9 := HR.out
        have hh0 := E0.out; change step (whole 1 63) md l a.size0 = _ at hh0; rw [hh0] at h9; simp only [Option.bind_some] at h9
        have hh1 := E1.out; change step (whole 1 64) md p0.1 a.size = _ at hh1; rw [hh1] at h9; simp only [Option.bind_some] at h9
        first | exact h9 | (rw [hb]; exact h9)
      subst hr0
      go_wp2_with fail
      go_end0
      have M := M2.out
      obtain ⟨⟨d1, q1, x1⟩, ⟨d0, q0, x0⟩, _⟩ := M.dn
      change (intK 1 63).is w2 (Grow md N w w2) d0 p0.2 at q0
      have t0 := (intK_okay (size := 1) (most := 63) (by decide) (by decide)).fine.size _ _ _ _ q0; change d0.length = 1 at t0; change Cells _ g (o + 0) d0 at x0
      change (intK 1 64).is w2 (Grow md N w w2) d1 p1.2 at q1
      have t1 := (intK_okay (size := 1) (most := 64) (by decide) (by decide)).fine.size _ _ _ _ q1; change d1.length = 1 at t1; change Cells _ g (o + 1) d1 at x1
      have y0 := cells_join x0 (show Cells _ g (o + 0 + d0.length) _ from by rw [t0, Nat.add_assoc]; exact x1)
      exact ⟨M.safe, rfl, M.cd, ⟨d0 ++ (d1), ⟨d0, d1, rfl, q0, q1⟩, by rw [Nat.add_zero] at y0; exact y0⟩, M.out, M.fz⟩

/-- vtd -/
def vtdK : Kd Vtd := ⟨vtdC, 2, ⟨0, 0⟩, fun w N cs a => ∃ c0 c1, cs = c0 ++ (c1) ∧ (natK .u64 8 18446744073709551615).is w N c0 a.tx ∧ (intK 1 2).is w N c1 a.vote⟩
theorem vtdK_fine : vtdK.Fine := by
  refine ⟨fun w N cs a ha => ?_, fun w w' N P cs a ha hs hN => ?_, fun w N M cs a ha hm => ?_⟩
  · obtain ⟨c0, c1, rfl, h0, h1⟩ := ha
    have s0 := (natK_okay (kd := .u64) (size := 8) (most := 18446744073709551615) (by decide) (by decide)).fine.size _ _ _ _ h0; have s1 := (intK_okay (size := 1) (most := 2) (by decide) (by decide)).fine.size _ _ _ _ h1
    change c0.length = 1 at s0; change c1.length = 1 at s1
    show _ = 2
    simp only [List.length_append]; omega
  · obtain ⟨c0, c1, e, h0, h1⟩ := ha
    exact ⟨c0, c1, e, (natK_okay (kd := .u64) (size := 8) (most := 18446744073709551615) (by decide) (by decide)).fine.safe _ _ _ _ _ _ h0 hs hN, (intK_okay (size := 1) (most := 2) (by decide) (by decide)).fine.safe _ _ _ _ _ _ h1 hs hN⟩
  · obtain ⟨c0, c1, e, h0, h1⟩ := ha
    exact ⟨c0, c1, e, (natK_okay (kd := .u64) (size := 8) (most := 18446744073709551615) (by decide) (by decide)).fine.mono _ _ _ _ _ h0 hm, (intK_okay (size := 1) (most := 2) (by decide) (by decide)).fine.mono _ _ _ _ _ h1 hm⟩
theorem step_vtd (md : Bool) (l : List Nat) (a : Vtd) : step vtdC md l a = (step eight md l a.tx).bind fun p0 => (step (whole 1 2) md p0.1 a.vote).bind fun p1 => some (p1.1, ⟨p0.2, p1.2⟩) := by
  unfold vtdC
  rw [step_map _ _ _ _ _ _ (fun _ => rfl)]
  simp only [step_two, Option.map_bind, Option.bind_assoc, Option.bind_some, Option.map_some, Function.comp_def]
theorem vtdK_okay : vtdK.Okay 16 := ⟨vtdK_fine, vtd_good, fun a ha => enc_len (c := vtdC) ha fun p hp => by
  rw [step_vtd] at hp
  obtain ⟨p0, e0, hp⟩ := bind_some_of hp
  have t0 := okay_stepw (natK_okay (kd := .u64) (size := 8) (most := 18446744073709551615) (by decide) (by decide)) (show step (natK .u64 8 18446744073709551615).cod false _ _ = _ from e0)
  obtain ⟨p1, e1, hp⟩ := bind_some_of hp
  have t1 := okay_stepw (intK_okay (size := 1) (most := 2) (by decide) (by decide)) (show step (intK 1 2).cod false _ _ = _ from e1)
  injection hp with hp
  subst hp
  simp at *
  omega⟩

set_option maxHeartbeats 8000000 in
theorem vtd_codes : Codes 170 [] vtdK 16 := by
  intro md P N gc sb f l g o cs a w hcd hz his hcs hN hw hr hg hne hl
  obtain ⟨c0, c1, rfl, h0, h1⟩ := his
  have s0 := (natK_okay (kd := .u64) (size := 8) (most := 18446744073709551615) (by decide) (by decide)).fine.size _ _ _ _ h0; change c0.length = 1 at s0
  have s1 := (intK_okay (size := 1) (most := 2) (by decide) (by decide)).fine.size _ _ _ _ h1; change c1.length = 1 at s1
  have k0 := cells_left hcs; have r0 := cells_right hcs; rw [s0] at r0
  have k1 := r0
  have M0 := Lib.hid (Mid.start (sz := 2) hcd (show Slots w (Grow md N w w) g o [(natK .u64 8 18446744073709551615).slot 0 a.tx, (intK 1 2).slot 1 a.vote] from ⟨⟨c0, (natK_okay (kd := .u64) (size := 8) (most := 18446744073709551615) (by decide) (by decide)).fine.mono _ _ (Grow md N w w) _ _ h0 (fun b hb => Or.inl hb), k0⟩, ⟨⟨c1, (intK_okay (size := 1) (most := 2) (by decide) (by decide)).fine.mono _ _ (Grow md N w w) _ _ h1 (fun b hb => Or.inl hb), k1⟩, trivial⟩⟩))
  have Z0 := Lib.hid (show md = true → a.tx = (natK .u64 8 18446744073709551615).zero from fun h => by rw [hz h]; rfl)
  have Z1 := Lib.hid (show md = true → a.vote = (intK 1 2).zero from fun h => by rw [hz h]; rfl)
  show Calls _ _ #[.pointer (some ⟨gc, 0, none⟩), .pointer (some ⟨g, o, none⟩)] w (Coded md P N gc sb f g o vtdK w (step vtdC md l a))
  have HR := Lib.hid (step_vtd md l a)
  generalize step vtdC md l a = r at *
  have HN := Lib.hid hN; have HW := Lib.hid hw; have HRD := Lib.hid hr
  clear hcd hz hcs hN hw hr h0 s0 k0 h1 s1 k1 r0
  go_enter Tryz.func170, Tryz.ntmps170
  have CALL := Lib.hid (M0.out.call (natK_okay (kd := .u64) (size := 8) (most := 18446744073709551615) (by decide) (by decide)).fine long_codes Z0.out HN.out HW.out HRD.out hg hne (by omega) (Nat.le_of_ble_eq_true rfl) trivial ⟨(intK_okay (size := 1) (most := 2) (by decide) (by decide)).fine.slot _ _, trivial⟩ trivial ⟨.inr (Nat.le_of_ble_eq_true rfl), trivial⟩)
  rw [Nat.add_zero] at CALL
  cases e0 : step (natK .u64 8 18446744073709551615).cod md l a.tx with
  | none =>
    rw [e0] at CALL
    have hr0 : r = none := by
      have h9 := HR.out
      change step eight md l a.tx = _ at e0; rw [e0] at h9; exact h9
    clear e0
    subst hr0
    go_wp2_with fail
    refine CALL.out.mono ?_
    rintro e w' ⟨h8, a', h9, h10, rfl, h11⟩
    exact ⟨rfl, coded_gave ⟨a', h9, h10, rfl, h11⟩ h8⟩
  | some p0 =>
    rw [e0] at CALL
    have hlen0 := (natK_okay (kd := .u64) (size := 8) (most := 18446744073709551615) (by decide) (by decide)).step M0.out.cd.bytes_of e0
    have E0 := Lib.hid e0
    clear e0
    go_wp2_with fail
    refine CALL.out.mono ?_
    rintro e w1 ⟨rfl, hM⟩
    have M1 := Lib.hid hM
    clear hM CALL
    have CALL := Lib.hid (M1.out.call (intK_okay (size := 1) (most := 2) (by decide) (by decide)).fine vote_codes Z1.out HN.out HW.out HRD.out hg hne (by omega) (Nat.le_of_ble_eq_true rfl) ⟨(natK_okay (kd := .u64) (size := 8) (most := 18446744073709551615) (by decide) (by decide)).fine.slot _ _, trivial⟩ trivial ⟨.inl (Nat.le_of_ble_eq_true rfl), trivial⟩ trivial)
    cases e1 : step (intK 1 2).cod md p0.1 a.vote with
    | none =>
      rw [e1] at CALL
      have hr0 : r = none := by
        have h9 := HR.out
        have hh0 := E0.out; change step eight md l a.tx = _ at hh0; rw [hh0] at h9; simp only [Option.bind_some] at h9
        change step (whole 1 2) md p0.1 a.vote = _ at e1; rw [e1] at h9; exact h9
      clear e1
      subst hr0
      go_wp2_with fail
      refine CALL.out.mono ?_
      rintro e w' ⟨h8, a', h9, h10, rfl, h11⟩
      exact ⟨rfl, coded_gave ⟨a', h9, h10, rfl, h11⟩ h8⟩
    | some p1 =>
      rw [e1] at CALL
      have hlen1 := (intK_okay (size := 1) (most := 2) (by decide) (by decide)).step M1.out.cd.bytes_of e1
      have E1 := Lib.hid e1
      clear e1
      go_wp2_with fail
      refine CALL.out.mono ?_
      rintro e w2 ⟨rfl, hM⟩
      have M2 := Lib.hid hM
      clear hM CALL
      have hr0 : r = some (p1.1, ⟨p0.2, p1.2⟩) := by
        have h9 := HR.out
        have hh0 := E0.out; change step eight md l a.tx = _ at hh0; rw [hh0] at h9; simp only [Option.bind_some] at h9
        have hh1 := E1.out; change step (whole 1 2) md p0.1 a.vote = _ at hh1; rw [hh1] at h9; simp only [Option.bind_some] at h9
        first | exact h9 | (rw [hb]; exact h9)
      subst hr0
      go_wp2_with fail
      go_end0
      have M := M2.out
      obtain ⟨⟨d1, q1, x1⟩, ⟨d0, q0, x0⟩, _⟩ := M.dn
      change (natK .u64 8 18446744073709551615).is w2 (Grow md N w w2) d0 p0.2 at q0
      have t0 := (natK_okay (kd := .u64) (size := 8) (most := 18446744073709551615) (by decide) (by decide)).fine.size _ _ _ _ q0; change d0.length = 1 at t0; change Cells _ g (o + 0) d0 at x0
      change (intK 1 2).is w2 (Grow md N w w2) d1 p1.2 at q1
      have t1 := (intK_okay (size := 1) (most := 2) (by decide) (by decide)).fine.size _ _ _ _ q1; change d1.length = 1 at t1; change Cells _ g (o + 1) d1 at x1
      have y0 := cells_join x0 (show Cells _ g (o + 0 + d0.length) _ from by rw [t0, Nat.add_assoc]; exact x1)
      exact ⟨M.safe, rfl, M.cd, ⟨d0 ++ (d1), ⟨d0, d1, rfl, q0, q1⟩, by rw [Nat.add_zero] at y0; exact y0⟩, M.out, M.fz⟩

set_option maxHeartbeats 16000000 in
theorem listvtd_codes (mx : Nat) (hlen : ∀ a, (vtdK).cod.ok a = true → ((vtdK).cod.enc a).length ≤ mx) (hgood : Good (vtdK).cod) (hE : Codes 170 [] (vtdK) mx) (max : Nat) (hm : max ≤ 255) : Codes 169 [.int .u64 (max : Int), .func (.func 170) #[] #[]] (listK (vtdK) max) (8 + max * mx) := by
  intro md P N gc sb f l g o cs xs w hcd hz his hcs hN hw hr hg hne hl
  obtain ⟨ao0, n0, cap0, rfl, hsl⟩ := his
  have hp := hcs 0 _ rfl
  simp only [Nat.add_zero] at hp
  have hn0 : n0 ≤ 9223372036854775807 := Nat.le_trans hsl.2.1 hsl.2.2.1
  have hxs := hsl.1
  have HCAP := Lib.hid hsl.2.2.1
  have hz0 : md = true → n0 = 0 := fun h => by rw [← hxs, hz h]; rfl
  have NB := Lib.hid (boxnum hcd hg hne hw n0 hn0 hz0 max hm (by omega))
  show Calls _ _ #[.pointer (some ⟨gc, 0, none⟩), .pointer (some ⟨g, o, none⟩), .int .u64 (max : Int), .func (.func 170) #[] #[]] w (Coded md P N gc sb f g o (listK (vtdK) max) w (step (list max (vtdK).cod) md l xs))
  have HR := Lib.hid (step_list (vtdK).cod md max (vtdK).zero xs l)
  rw [hxs] at HR
  generalize hrr : step (list max (vtdK).cod) md l xs = r at *
  clear hrr
  have hgc := hcd.lt
  have HNP := Lib.hid hN
  have HPO := Lib.hid (fun b (hb : P b) => hcd.off hb)
  cases md
  · have HE := Lib.hid (fun l' w' hcd' hs' => coded_wrote (sb := sb) (f := f) (gc := gc) (l' := l') (listK_fine vtdK_okay.fine max) (w' := w') hcd' hs' (hw rfl) hN ⟨ao0, n0, cap0, rfl, hsl⟩ hcs)
    obtain ⟨g2, o2, hsn, hat⟩ := sl_at hsl
    have HAT := Lib.hid hat
    clear hat
    by_cases hok : n0 ≤ max
    · rw [num_w hok] at NB HR
      simp only [Option.bind_some, Bool.false_eq_true, if_false] at HR
      clear hz hcs hN hw hr hcd hz0 hsl
      go_enter Tryz.func169, Tryz.ntmps169
      go_wp2_with fail
      refine NB.out.mono ?_
      rintro e w1 ⟨rfl, h1, h2, h3, h4, h5⟩
      have h1 : CdIs w1 false (fun b => P b ∨ b = g ∨ b = w.heap.size) gc sb f (l ++ le 1 n0) := h1
      have h3 : w1.cell? ⟨w.heap.size, 0, none⟩ = some (.int .i64 (n0 : Int)) := h3
      have hp1 := (h2.cell (a := ⟨g, o, none⟩) (.inr rfl)).trans hp
      have H2 := Lib.hid h2
      have M0 := Lib.hid (MidL.start (k := vtdK) (N := N) (g := g2) (o := o2) (xs := xs) h1 (fun i a hi => by
        obtain ⟨cs, q1, q2⟩ := HAT.out i a hi
        have hn : 0 < n0 := by have := (List.getElem?_eq_some_iff.1 hi).1; omega
        exact ⟨cs, vtdK_okay.fine.mono _ _ _ _ _ (vtdK_okay.fine.safe _ _ _ _ _ _ q1 (h2.mono fun b hb => .inl hb) HNP.out) (fun b hb => .inl hb), q2.safe h2 (.inl (HNP.out _ (hsn hn).2))⟩))
      have HSZ := Lib.hid (show w.heap.size ≤ w1.heap.size from h2.size)
      have HPG := Lib.hid hp1
      have hcc := h1
      obtain ⟨ao, n, cap, ha, hof⟩ := h1
      have c0 := ha.c0
      have HL0 := Lib.hid (show (l ++ le 1 n0).length = l.length + 1 by simp [le_length])
      clear ha hof h2 h4 hp hp1 hcc
      generalize l ++ le 1 n0 = l1 at *
      go_wp2_with fail
      clear c0 h3
      go_loopw [30] (fun i wr => ∃ (k : Nat) (lk : List Nat), k ≤ n0 ∧ i = .int .i64 (k : Int) ∧ stepL (vtdK).cod false (xs.take k) l1 = some (lk, xs.take k) ∧ lk.length ≤ l.length + 1 + k * mx ∧ MidL false (fun b => P b ∨ b = g ∨ b = w.heap.size) N gc sb f lk g2 o2 (vtdK) xs w1 wr) (fun i _ => n0 - (intOf i).toNat)
      case atStart => exact ⟨0, l1, by omega, rfl, rfl, by rw [HL0.out]; omega, M0.out⟩
      case round =>
        obtain ⟨k, lk, hk, rfl, hst, hlk, hM⟩ := hrel
        have HM := Lib.hid hM
        have HST := Lib.hid hst
        have hp2 := (hM.safe.toSafe.cell (a := ⟨g, o, none⟩) (.inr (.inl rfl))).trans HPG.out
        clear hM hst
        by_cases hlt : k < n0
        · have hi : xs[k]? = some (xs[k]'(by omega)) := List.getElem?_eq_getElem (by omega)
          generalize xs[k]'(by omega) = a at hi
          have HI := Lib.hid hi
          obtain ⟨hao, hNg⟩ := hsn (by omega)
          have hkm : (k + 1) * mx ≤ max * mx := Nat.mul_le_mul_right _ (by omega)
          rw [Nat.succ_mul] at hkm
          have CALL := Lib.hid (HM.out.call vtdK_okay.fine hE hi (fun h => by cases h) (fun b hb => .inl (HNP.out b hb)) (fun _ => .inl (HNP.out _ hNg)) (fun h => by cases h) (Nat.lt_of_lt_of_le (HPO.out _ (HNP.out _ hNg)).1 HSZ.out) (HPO.out _ (HNP.out _ hNg)).2 (by omega))
          have HMORE := Lib.hid (stepL_more (vtdK).cod false hi l1)
          rw [HST.out] at HMORE
          subst hao
          clear hi
          cases hs : step (vtdK).cod false lk a with
          | none =>
            rw [hs] at CALL
            have hr0 : r = none := by
              rw [HR.out]
              refine stepL_none _ _ l1 (k := k + 1) ?_
              have h9 := HMORE.out
              simp only [Option.bind_some, hs, Option.map_none] at h9
              exact h9
            clear hs HMORE
            subst hr0
            go_wp2_with fail
            refine CALL.out.mono ?_
            rintro e w' ⟨h8, a', h9, h10, rfl, h11⟩
            exact ⟨rfl, coded_gave (Gave.from ⟨a', h9, h10, rfl, h11⟩ HSZ.out) ((SafeK.of H2.out).trans (SafeK.of (h8.toSafe.mono fun b hb => by
              rcases hb with hb | hb
              · exact .inl hb
              · exact .inr (.inl hb))))⟩
          | some p =>
            rw [hs] at CALL
            have HS := Lib.hid hs
            clear hs
            go_wp2_with fail
            refine CALL.out.mono ?_
            rintro e w' ⟨rfl, hM2⟩
            have HM2 := Lib.hid (midl_wrote HI.out HS.out hM2)
            clear hM2
            go_wp2_with fail
            go_roundw
            case rel =>
              refine ⟨k + 1, p.1, by omega, by go_num, ?_, ?_, HM2.out⟩
              · have h9 := HMORE.out
                have h10 := HS.out
                rw [step_w] at h10
                split at h10
                · injection h10 with h10
                  subst h10
                  rename_i hk2
                  simp only [Option.bind_some, step_w, hk2, if_true, Option.map_some] at h9
                  rw [h9, List.take_add_one, HI.out]; rfl
                · cases h10
              · have h10 := HS.out
                rw [step_w] at h10
                split at h10
                · injection h10 with h10
                  subst h10
                  rename_i hk2
                  have := hlen a hk2
                  simp only [List.length_append, Nat.succ_mul]
                  omega
                · cases h10
            case measure => simp [intOf]; omega
        · obtain rfl : n0 = k := by omega
          have hr0 : r = some (lk, xs) := by
            rw [HR.out]
            have h9 := HST.out
            rwa [List.take_of_length_le (by omega)] at h9
          subst hr0
          go_wp2_with fail
          go_end0
          exact HE.out _ _ (HM.out.cd.reP (fun hm => by cases hm) fun b hb => .inl (.inl (.inl hb))) ((H2.out.mono fun b hb => .inl hb).trans (HM.out.safe.toSafe.mono fun b hb => .inl hb))
    · rw [num_w_no (by omega)] at NB HR
      simp only [Option.bind_none] at HR
      have hr0 : r = none := HR.out
      subst hr0
      clear hz hcs hN hw hr hcd hz0 hsl
      go_enter Tryz.func169, Tryz.ntmps169
      go_wp2_with fail
      refine NB.out.mono ?_
      rintro e w1 ⟨hs, a, h1, h2, rfl, h3⟩
      exact ⟨rfl, coded_gave ⟨a, h1, h2, rfl, h3⟩ hs⟩
  · have hf0 := (hr rfl).2 o
    have hsrc := hcd.src
    have hnP := (hr rfl).1
    have hl0 := hcd.bytes
    obtain rfl : xs = [] := hz rfl
    obtain rfl : n0 = 0 := hz0 rfl
    clear hz hcs hN hw hr hcd hz0 hsl
    cases hst : step (num' 1 max) true l 0 with
    | none =>
      rw [hst] at NB HR
      simp only [Option.bind_none] at HR
      have hr0 : r = none := HR.out
      subst hr0
      clear hst
      go_enter Tryz.func169, Tryz.ntmps169
      go_wp2_with fail
      refine NB.out.mono ?_
      rintro e w1 ⟨hs, a, h1, h2, rfl, h3⟩
      exact ⟨rfl, coded_gave ⟨a, h1, h2, rfl, h3⟩ hs⟩
    | some p =>
      obtain ⟨l', n⟩ := p
      obtain ⟨hnm, hll⟩ := num_r_le hst
      rw [hst] at NB HR
      simp only [Option.bind_some, if_true] at HR
      clear hst
      by_cases hn : n = 0
      · subst hn
        have hr0 : r = some (l', []) := HR.out
        subst hr0
        go_enter Tryz.func169, Tryz.ntmps169
        go_wp2_with fail
        refine NB.out.mono ?_
        rintro e w1 ⟨rfl, h1, h2, h3, h4, h5⟩
        have h1 : CdIs w1 true (fun b => P b ∨ b = g ∨ b = w.heap.size) gc sb f l' := h1
        have h3 : w1.cell? ⟨w.heap.size, 0, none⟩ = some (.int .i64 0) := h3
        have hp1 := (h2.cell (a := ⟨g, o, none⟩) (.inr rfl)).trans hp
        have HE := Lib.hid (Coded.from (N := N) (listK_fine vtdK_okay.fine max) (coded_keep (N := N) (k := listK (vtdK) max) (g := g) (o := o) (a := []) (cs := [.slice ao0 0 cap0]) (listK_fine vtdK_okay.fine max) h1 (fun b hb => .inl hb) hsrc ⟨ao0, 0, cap0, rfl, rfl, Nat.zero_le _, HCAP.out, fun i a hi => by simp at hi⟩ (fun j u hu => by
          obtain rfl : j = 0 := by
            have := (List.getElem?_eq_some_iff.1 hu).1
            simp at this; exact this
          obtain rfl : Value.slice ao0 0 cap0 = u := by simpa using hu
          exact hp1)) h2 hgc)
        obtain ⟨ao, nn, cap, ha, hof⟩ := h1
        have c0 := ha.c0
        clear ha hof h2 h4 hp hp1
        go_wp2_with fail
        go_loopw [30] (fun i wr => i = .int .i64 0 ∧ wr = w1) (fun _ _ => 0)
        case atStart => exact ⟨rfl, rfl⟩
        case round =>
          obtain ⟨rfl, rfl⟩ := hrel
          go_wp2_with fail
          go_end0
          exact HE.out
      · have hn1 : 1 ≤ n := by omega
        clear hn
        have HMM := Lib.hid (show mx ≤ max * mx from Nat.le_mul_of_pos_left _ (by omega))
        have HLL := Lib.hid hll
        clear hll
        go_enter Tryz.func169, Tryz.ntmps169
        go_wp2_with fail
        refine NB.out.mono ?_
        rintro e w1 ⟨rfl, h1, h2, h3, h4, h5⟩
        have h1 : CdIs w1 true (fun b => P b ∨ b = g ∨ b = w.heap.size) gc sb f l' := h1
        have h3 : w1.cell? ⟨w.heap.size, 0, none⟩ = some (.int .i64 (n : Int)) := h3
        have hp1 := (h2.cell (a := ⟨g, o, none⟩) (.inr rfl)).trans hp
        have hf1 : w1.frozen? ⟨g, o, none⟩ = false := (World.frozen?_of_block (w := w) (a := ⟨g, o, none⟩) (h2.block g (.inr rfl))).trans hf0
        have HLD := Lib.hid (laid_of (o := o) (n := n) (k := vtdK) h1 hsrc hnP hne hg hgc h5 (Value.agg #[.int .u64 0, .int .i64 0]) 191 _ rfl rfl (fun w N => ⟨[.int .u64 0], [.int .i64 0], rfl, ⟨rfl, by decide⟩, ⟨rfl, by unfold I64; decide⟩⟩) (by rw [hp1]; rfl) hf1)
        have RM := Lib.hid (run_mk w1 42 191 (Value.agg #[.int .u64 0, .int .i64 0]) (vtdK).sz 16 (by kernel_rfl) (by kernel_rfl) n (by omega) (by decide))
        have H2 := Lib.hid h2
        obtain ⟨ao, nn, cap, ha, hof⟩ := h1
        have c0 := ha.c0
        clear ha hof h2 h4 hp
        generalize w1.alloc (.cells (madeCells (Value.agg #[.int .u64 0, .int .i64 0]).cells (n * (vtdK).sz)) 191) = w2 at *
        obtain ⟨xv, c2⟩ := Option.isSome_iff_exists.1 HLD.out.c2
        have f2 := HLD.out.f2
        have c3 := HLD.out.c3
        have b3 := HLD.out.b3.trans h3
        have hd : decide (0 < n) = true := decide_eq_true (by omega)
        go_wp2_with (at_make; refine wpList_runs rfl _ _ (exec_make (vl := .int .i64 (n : Int)) (vc := .int .i64 (n : Int)) 42 (.tmp 26) (.tmp 26) rfl rfl rfl RM.out) ?_)
        generalize w2.setCell ⟨g, o, none⟩ _ = w3 at *
        clear c0 h3 hp1 hf1 c2 f2 hd RM b3
        have HC3 := Lib.hid c3
        clear c3
        go_loopw [30] (fun i wr => ∃ (k : Nat) (lk : List Nat) (ys : List _), k ≤ n ∧ i = .int .i64 (k : Int) ∧ stepL (vtdK).cod true ((List.replicate n (vtdK).zero).take k) l' = some (lk, ys) ∧ lk.length ≤ l.length ∧ MidL true (fun b => P b ∨ b = g ∨ b = w.heap.size) (fun _ => False) gc sb f lk w1.heap.size 0 (vtdK) (ys ++ List.replicate (n - k) (vtdK).zero) w3 wr) (fun i _ => n - (intOf i).toNat)
        case atStart => exact ⟨0, l', [], by omega, rfl, rfl, HLL.out, HLD.out.mid⟩
        case round =>
          obtain ⟨k, lk, ys, hk, rfl, hst, hlk, hM⟩ := hrel
          have HM := Lib.hid hM
          have HST := Lib.hid hst
          have hp2 := (hM.safe.toSafe.cell (a := ⟨g, o, none⟩) (.inr (.inl rfl))).trans HC3.out
          have hyl : ys.length = k := by rw [stepL_len _ _ _ _ _ _ hst]; simp; omega
          have HYL := Lib.hid hyl
          have HSR := Lib.hid HLD.out.sz
          clear hM hst
          by_cases hlt : k < n
          · have hi : (ys ++ List.replicate (n - k) (vtdK).zero)[k]? = some (vtdK).zero := by
              rw [List.getElem?_append_right (by omega), hyl, Nat.sub_self, List.getElem?_replicate, if_pos (by omega)]
            have CALL := Lib.hid (HM.out.call vtdK_okay.fine hE hi (fun _ => rfl) (fun b hb => hb.elim) (fun h => by cases h) (fun _ => ⟨(fun hb => by
              rcases hb with hb | hb | hb
              · have := HPO.out _ hb; have := H2.out.size; omega
              · have := H2.out.size; omega
              · omega), HLD.out.f3⟩) (by rw [HSR.out]; omega) (by have := H2.out.size; omega) (by have := HMM.out; omega))
            have HMORE := Lib.hid (stepL_more (vtdK).cod true (x := List.replicate n (vtdK).zero) (k := k) (a := (vtdK).zero) (by rw [List.getElem?_replicate, if_pos hlt]) l')
            rw [HST.out] at HMORE
            rw [Nat.zero_add] at CALL
            clear hi hyl
            cases hs : step (vtdK).cod true lk (vtdK).zero with
            | none =>
              rw [hs] at CALL
              have hr0 : r = none := by
                rw [HR.out]
                refine stepL_none _ _ l' (k := k + 1) ?_
                have h9 := HMORE.out
                simp only [Option.bind_some, hs, Option.map_none] at h9
                exact h9
              clear hs HMORE
              subst hr0
              go_wp2_with fail
              refine CALL.out.mono ?_
              rintro e w' ⟨h8, a', h9, h10, rfl, h11⟩
              exact ⟨rfl, coded_gave (Gave.from ⟨a', h9, h10, rfl, h11⟩ (by have := H2.out.size; have := HSR.out; omega)) (((SafeK.of H2.out).trans ⟨HLD.out.s3, fun j hj => (by
                by_cases e : j = o
                · subst e; rw [HC3.out]; rfl
                · rw [HLD.out.ot j e]; exact hj), HLD.out.fz⟩).trans (SafeK.of (h8.toSafe.mono fun b hb => by
                rcases hb with hb | hb
                · exact .inl hb
                · exact .inr (.inl hb))))⟩
            | some p =>
              rw [hs] at CALL
              have HSH := Lib.hid (step_short hgood HM.out.cd.bytes hs)
              have HMORE2 : Hid (stepL (vtdK).cod true ((List.replicate n (vtdK).zero).take (k + 1)) l' = some (p.1, ys ++ [p.2])) := Lib.hid (by
                have h9 := HMORE.out
                simp only [Option.bind_some, hs, Option.map_some] at h9
                exact h9)
              clear hs HMORE
              go_wp2_with fail
              refine CALL.out.mono ?_
              rintro e w' ⟨rfl, hM2⟩
              have hM3 := hM2
              rw [set_mid _ _ _ _ _ HYL.out hlt] at hM3
              have HM2 := Lib.hid hM3
              clear hM2 hM3
              go_wp2_with fail
              go_roundw
              case rel => exact ⟨k + 1, p.1, ys ++ [p.2], by omega, by go_num, HMORE2.out, by have := HSH.out; omega, HM2.out⟩
              case measure => simp [intOf]; omega
          · obtain rfl : n = k := by omega
            have hr0 : r = some (lk, ys) := by
              rw [HR.out]
              have h9 := HST.out
              rwa [List.take_of_length_le (by simp)] at h9
            subst hr0
            clear hyl
            go_wp2_with fail
            go_end0
            have M := HM.out
            rw [Nat.sub_self, List.replicate_zero, List.append_nil] at M
            exact coded_listread vtdK_okay.fine H2.out HLD.out.s3 hsrc hgc (Nat.le_refl _) (by rw [HSR.out]; omega) HC3.out HLD.out.ot HLD.out.fz HYL.out (by omega) M

/-- bal -/
def balK : Kd Bal := ⟨balC, 2, ⟨0, 0⟩, fun w N cs a => ∃ c0 c1, cs = c0 ++ (c1) ∧ (natK .u32 4 4294967295).is w N c0 a.round ∧ (natK .u8 1 255).is w N c1 a.node⟩
theorem balK_fine : balK.Fine := by
  refine ⟨fun w N cs a ha => ?_, fun w w' N P cs a ha hs hN => ?_, fun w N M cs a ha hm => ?_⟩
  · obtain ⟨c0, c1, rfl, h0, h1⟩ := ha
    have s0 := (natK_okay (kd := .u32) (size := 4) (most := 4294967295) (by decide) (by decide)).fine.size _ _ _ _ h0; have s1 := (natK_okay (kd := .u8) (size := 1) (most := 255) (by decide) (by decide)).fine.size _ _ _ _ h1
    change c0.length = 1 at s0; change c1.length = 1 at s1
    show _ = 2
    simp only [List.length_append]; omega
  · obtain ⟨c0, c1, e, h0, h1⟩ := ha
    exact ⟨c0, c1, e, (natK_okay (kd := .u32) (size := 4) (most := 4294967295) (by decide) (by decide)).fine.safe _ _ _ _ _ _ h0 hs hN, (natK_okay (kd := .u8) (size := 1) (most := 255) (by decide) (by decide)).fine.safe _ _ _ _ _ _ h1 hs hN⟩
  · obtain ⟨c0, c1, e, h0, h1⟩ := ha
    exact ⟨c0, c1, e, (natK_okay (kd := .u32) (size := 4) (most := 4294967295) (by decide) (by decide)).fine.mono _ _ _ _ _ h0 hm, (natK_okay (kd := .u8) (size := 1) (most := 255) (by decide) (by decide)).fine.mono _ _ _ _ _ h1 hm⟩
theorem step_bal (md : Bool) (l : List Nat) (a : Bal) : step balC md l a = (step four_ md l a.round).bind fun p0 => (step (num' 1 255) md p0.1 a.node).bind fun p1 => some (p1.1, ⟨p0.2, p1.2⟩) := by
  unfold balC
  rw [step_map _ _ _ _ _ _ (fun _ => rfl)]
  simp only [step_two, Option.map_bind, Option.bind_assoc, Option.bind_some, Option.map_some, Function.comp_def]
theorem balK_okay : balK.Okay 16 := ⟨balK_fine, bal_good, fun a ha => enc_len (c := balC) ha fun p hp => by
  rw [step_bal] at hp
  obtain ⟨p0, e0, hp⟩ := bind_some_of hp
  have t0 := okay_stepw (natK_okay (kd := .u32) (size := 4) (most := 4294967295) (by decide) (by decide)) (show step (natK .u32 4 4294967295).cod false _ _ = _ from e0)
  obtain ⟨p1, e1, hp⟩ := bind_some_of hp
  have t1 := okay_stepw (natK_okay (kd := .u8) (size := 1) (most := 255) (by decide) (by decide)) (show step (natK .u8 1 255).cod false _ _ = _ from e1)
  injection hp with hp
  subst hp
  simp at *
  omega⟩

set_option maxHeartbeats 8000000 in
theorem bal_codes : Codes 101 [] balK 16 := by
  intro md P N gc sb f l g o cs a w hcd hz his hcs hN hw hr hg hne hl
  obtain ⟨c0, c1, rfl, h0, h1⟩ := his
  have s0 := (natK_okay (kd := .u32) (size := 4) (most := 4294967295) (by decide) (by decide)).fine.size _ _ _ _ h0; change c0.length = 1 at s0
  have s1 := (natK_okay (kd := .u8) (size := 1) (most := 255) (by decide) (by decide)).fine.size _ _ _ _ h1; change c1.length = 1 at s1
  have k0 := cells_left hcs; have r0 := cells_right hcs; rw [s0] at r0
  have k1 := r0
  have M0 := Lib.hid (Mid.start (sz := 2) hcd (show Slots w (Grow md N w w) g o [(natK .u32 4 4294967295).slot 0 a.round, (natK .u8 1 255).slot 1 a.node] from ⟨⟨c0, (natK_okay (kd := .u32) (size := 4) (most := 4294967295) (by decide) (by decide)).fine.mono _ _ (Grow md N w w) _ _ h0 (fun b hb => Or.inl hb), k0⟩, ⟨⟨c1, (natK_okay (kd := .u8) (size := 1) (most := 255) (by decide) (by decide)).fine.mono _ _ (Grow md N w w) _ _ h1 (fun b hb => Or.inl hb), k1⟩, trivial⟩⟩))
  have Z0 := Lib.hid (show md = true → a.round = (natK .u32 4 4294967295).zero from fun h => by rw [hz h]; rfl)
  have Z1 := Lib.hid (show md = true → a.node = (natK .u8 1 255).zero from fun h => by rw [hz h]; rfl)
  show Calls _ _ #[.pointer (some ⟨gc, 0, none⟩), .pointer (some ⟨g, o, none⟩)] w (Coded md P N gc sb f g o balK w (step balC md l a))
  have HR := Lib.hid (step_bal md l a)
  generalize step balC md l a = r at *
  have HN := Lib.hid hN; have HW := Lib.hid hw; have HRD := Lib.hid hr
  clear hcd hz hcs hN hw hr h0 s0 k0 h1 s1 k1 r0
  go_enter Tryz.func101, Tryz.ntmps101
  have CALL := Lib.hid (M0.out.call (natK_okay (kd := .u32) (size := 4) (most := 4294967295) (by decide) (by decide)).fine word_codes Z0.out HN.out HW.out HRD.out hg hne (by omega) (Nat.le_of_ble_eq_true rfl) trivial ⟨(natK_okay (kd := .u8) (size := 1) (most := 255) (by decide) (by decide)).fine.slot _ _, trivial⟩ trivial ⟨.inr (Nat.le_of_ble_eq_true rfl), trivial⟩)
  rw [Nat.add_zero] at CALL
  cases e0 : step (natK .u32 4 4294967295).cod md l a.round with
  | none =>
    rw [e0] at CALL
    have hr0 : r = none := by
      have h9 := HR.out
      change step four_ md l a.round = _ at e0; rw [e0] at h9; exact h9
    clear e0
    subst hr0
    go_wp2_with fail
    refine CALL.out.mono ?_
    rintro e w' ⟨h8, a', h9, h10, rfl, h11⟩
    exact ⟨rfl, coded_gave ⟨a', h9, h10, rfl, h11⟩ h8⟩
  | some p0 =>
    rw [e0] at CALL
    have hlen0 := (natK_okay (kd := .u32) (size := 4) (most := 4294967295) (by decide) (by decide)).step M0.out.cd.bytes_of e0
    have E0 := Lib.hid e0
    clear e0
    go_wp2_with fail
    refine CALL.out.mono ?_
    rintro e w1 ⟨rfl, hM⟩
    have M1 := Lib.hid hM
    clear hM CALL
    have CALL := Lib.hid (M1.out.call (natK_okay (kd := .u8) (size := 1) (most := 255) (by decide) (by decide)).fine octet8_codes Z1.out HN.out HW.out HRD.out hg hne (by omega) (Nat.le_of_ble_eq_true rfl) ⟨(natK_okay (kd := .u32) (size := 4) (most := 4294967295) (by decide) (by decide)).fine.slot _ _, trivial⟩ trivial ⟨.inl (Nat.le_of_ble_eq_true rfl), trivial⟩ trivial)
    cases e1 : step (natK .u8 1 255).cod md p0.1 a.node with
    | none =>
      rw [e1] at CALL
      have hr0 : r = none := by
        have h9 := HR.out
        have hh0 := E0.out; change step four_ md l a.round = _ at hh0; rw [hh0] at h9; simp only [Option.bind_some] at h9
        change step (num' 1 255) md p0.1 a.node = _ at e1; rw [e1] at h9; exact h9
      clear e1
      subst hr0
      go_wp2_with fail
      refine CALL.out.mono ?_
      rintro e w' ⟨h8, a', h9, h10, rfl, h11⟩
      exact ⟨rfl, coded_gave ⟨a', h9, h10, rfl, h11⟩ h8⟩
    | some p1 =>
      rw [e1] at CALL
      have hlen1 := (natK_okay (kd := .u8) (size := 1) (most := 255) (by decide) (by decide)).step M1.out.cd.bytes_of e1
      have E1 := Lib.hid e1
      clear e1
      go_wp2_with fail
      refine CALL.out.mono ?_
      rintro e w2 ⟨rfl, hM⟩
      have M2 := Lib.hid hM
      clear hM CALL
      have hr0 : r = some (p1.1, ⟨p0.2, p1.2⟩) := by
        have h9 := HR.out
        have hh0 := E0.out; change step four_ md l a.round = _ at hh0; rw [hh0] at h9; simp only [Option.bind_some] at h9
        have hh1 := E1.out; change step (num' 1 255) md p0.1 a.node = _ at hh1; rw [hh1] at h9; simp only [Option.bind_some] at h9
        first | exact h9 | (rw [hb]; exact h9)
      subst hr0
      go_wp2_with fail
      go_end0
      have M := M2.out
      obtain ⟨⟨d1, q1, x1⟩, ⟨d0, q0, x0⟩, _⟩ := M.dn
      change (natK .u32 4 4294967295).is w2 (Grow md N w w2) d0 p0.2 at q0
      have t0 := (natK_okay (kd := .u32) (size := 4) (most := 4294967295) (by decide) (by decide)).fine.size _ _ _ _ q0; change d0.length = 1 at t0; change Cells _ g (o + 0) d0 at x0
      change (natK .u8 1 255).is w2 (Grow md N w w2) d1 p1.2 at q1
      have t1 := (natK_okay (kd := .u8) (size := 1) (most := 255) (by decide) (by decide)).fine.size _ _ _ _ q1; change d1.length = 1 at t1; change Cells _ g (o + 1) d1 at x1
      have y0 := cells_join x0 (show Cells _ g (o + 0 + d0.length) _ from by rw [t0, Nat.add_assoc]; exact x1)
      exact ⟨M.safe, rfl, M.cd, ⟨d0 ++ (d1), ⟨d0, d1, rfl, q0, q1⟩, by rw [Nat.add_zero] at y0; exact y0⟩, M.out, M.fz⟩

/-- ins -/
def insK : Kd Ins := ⟨insC, 4, ⟨0, 0, 0, 0⟩, fun w N cs a => ∃ c0 c1 c2 c3, cs = c0 ++ (c1 ++ (c2 ++ (c3))) ∧ (natK .u64 8 18446744073709551615).is w N c0 a.tx ∧ (intK 1 63).is w N c1 a.bucket ∧ (intK 1 3).is w N c2 a.replica ∧ (natK .u32 4 4294967295).is w N c3 a.index⟩
theorem insK_fine : insK.Fine := by
  refine ⟨fun w N cs a ha => ?_, fun w w' N P cs a ha hs hN => ?_, fun w N M cs a ha hm => ?_⟩
  · obtain ⟨c0, c1, c2, c3, rfl, h0, h1, h2, h3⟩ := ha
    have s0 := (natK_okay (kd := .u64) (size := 8) (most := 18446744073709551615) (by decide) (by decide)).fine.size _ _ _ _ h0; have s1 := (intK_okay (size := 1) (most := 63) (by decide) (by decide)).fine.size _ _ _ _ h1; have s2 := (intK_okay (size := 1) (most := 3) (by decide) (by decide)).fine.size _ _ _ _ h2; have s3 := (natK_okay (kd := .u32) (size := 4) (most := 4294967295) (by decide) (by decide)).fine.size _ _ _ _ h3
    change c0.length = 1 at s0; change c1.length = 1 at s1; change c2.length = 1 at s2; change c3.length = 1 at s3
    show _ = 4
    simp only [List.length_append]; omega
  · obtain ⟨c0, c1, c2, c3, e, h0, h1, h2, h3⟩ := ha
    exact ⟨c0, c1, c2, c3, e, (natK_okay (kd := .u64) (size := 8) (most := 18446744073709551615) (by decide) (by decide)).fine.safe _ _ _ _ _ _ h0 hs hN, (intK_okay (size := 1) (most := 63) (by decide) (by decide)).fine.safe _ _ _ _ _ _ h1 hs hN, (intK_okay (size := 1) (most := 3) (by decide) (by decide)).fine.safe _ _ _ _ _ _ h2 hs hN, (natK_okay (kd := .u32) (size := 4) (most := 4294967295) (by decide) (by decide)).fine.safe _ _ _ _ _ _ h3 hs hN⟩
  · obtain ⟨c0, c1, c2, c3, e, h0, h1, h2, h3⟩ := ha
    exact ⟨c0, c1, c2, c3, e, (natK_okay (kd := .u64) (size := 8) (most := 18446744073709551615) (by decide) (by decide)).fine.mono _ _ _ _ _ h0 hm, (intK_okay (size := 1) (most := 63) (by decide) (by decide)).fine.mono _ _ _ _ _ h1 hm, (intK_okay (size := 1) (most := 3) (by decide) (by decide)).fine.mono _ _ _ _ _ h2 hm, (natK_okay (kd := .u32) (size := 4) (most := 4294967295) (by decide) (by decide)).fine.mono _ _ _ _ _ h3 hm⟩
theorem step_ins (md : Bool) (l : List Nat) (a : Ins) : step insC md l a = (step eight md l a.tx).bind fun p0 => (step (whole 1 63) md p0.1 a.bucket).bind fun p1 => (step (whole 1 3) md p1.1 a.replica).bind fun p2 => (step four_ md p2.1 a.index).bind fun p3 => some (p3.1, ⟨p0.2, p1.2, p2.2, p3.2⟩) := by
  unfold insC
  rw [step_map _ _ _ _ _ _ (fun _ => rfl)]
  simp only [step_two, Option.map_bind, Option.bind_assoc, Option.bind_some, Option.map_some, Function.comp_def]
theorem insK_okay : insK.Okay 32 := ⟨insK_fine, ins_good, fun a ha => enc_len (c := insC) ha fun p hp => by
  rw [step_ins] at hp
  obtain ⟨p0, e0, hp⟩ := bind_some_of hp
  have t0 := okay_stepw (natK_okay (kd := .u64) (size := 8) (most := 18446744073709551615) (by decide) (by decide)) (show step (natK .u64 8 18446744073709551615).cod false _ _ = _ from e0)
  obtain ⟨p1, e1, hp⟩ := bind_some_of hp
  have t1 := okay_stepw (intK_okay (size := 1) (most := 63) (by decide) (by decide)) (show step (intK 1 63).cod false _ _ = _ from e1)
  obtain ⟨p2, e2, hp⟩ := bind_some_of hp
  have t2 := okay_stepw (intK_okay (size := 1) (most := 3) (by decide) (by decide)) (show step (intK 1 3).cod false _ _ = _ from e2)
  obtain ⟨p3, e3, hp⟩ := bind_some_of hp
  have t3 := okay_stepw (natK_okay (kd := .u32) (size := 4) (most := 4294967295) (by decide) (by decide)) (show step (natK .u32 4 4294967295).cod false _ _ = _ from e3)
  injection hp with hp
  subst hp
  simp at *
  omega⟩

set_option maxHeartbeats 8000000 in
theorem ins_codes : Codes 99 [] insK 32 := by
  intro md P N gc sb f l g o cs a w hcd hz his hcs hN hw hr hg hne hl
  obtain ⟨c0, c1, c2, c3, rfl, h0, h1, h2, h3⟩ := his
  have s0 := (natK_okay (kd := .u64) (size := 8) (most := 18446744073709551615) (by decide) (by decide)).fine.size _ _ _ _ h0; change c0.length = 1 at s0
  have s1 := (intK_okay (size := 1) (most := 63) (by decide) (by decide)).fine.size _ _ _ _ h1; change c1.length = 1 at s1
  have s2 := (intK_okay (size := 1) (most := 3) (by decide) (by decide)).fine.size _ _ _ _ h2; change c2.length = 1 at s2
  have s3 := (natK_okay (kd := .u32) (size := 4) (most := 4294967295) (by decide) (by decide)).fine.size _ _ _ _ h3; change c3.length = 1 at s3
  have k0 := cells_left hcs; have r0 := cells_right hcs; rw [s0] at r0
  have k1 := cells_left r0; have r1 := cells_right r0; rw [s1] at r1
  rw [Nat.add_assoc] at r1
  have k2 := cells_left r1; have r2 := cells_right r1; rw [s2] at r2
  rw [Nat.add_assoc] at r2
  have k3 := r2
  have M0 := Lib.hid (Mid.start (sz := 4) hcd (show Slots w (Grow md N w w) g o [(natK .u64 8 18446744073709551615).slot 0 a.tx, (intK 1 63).slot 1 a.bucket, (intK 1 3).slot 2 a.replica, (natK .u32 4 4294967295).slot 3 a.index] from ⟨⟨c0, (natK_okay (kd := .u64) (size := 8) (most := 18446744073709551615) (by decide) (by decide)).fine.mono _ _ (Grow md N w w) _ _ h0 (fun b hb => Or.inl hb), k0⟩, ⟨⟨c1, (intK_okay (size := 1) (most := 63) (by decide) (by decide)).fine.mono _ _ (Grow md N w w) _ _ h1 (fun b hb => Or.inl hb), k1⟩, ⟨⟨c2, (intK_okay (size := 1) (most := 3) (by decide) (by decide)).fine.mono _ _ (Grow md N w w) _ _ h2 (fun b hb => Or.inl hb), k2⟩, ⟨⟨c3, (natK_okay (kd := .u32) (size := 4) (most := 4294967295) (by decide) (by decide)).fine.mono _ _ (Grow md N w w) _ _ h3 (fun b hb => Or.inl hb), k3⟩, trivial⟩⟩⟩⟩))
  have Z0 := Lib.hid (show md = true → a.tx = (natK .u64 8 18446744073709551615).zero from fun h => by rw [hz h]; rfl)
  have Z1 := Lib.hid (show md = true → a.bucket = (intK 1 63).zero from fun h => by rw [hz h]; rfl)
  have Z2 := Lib.hid (show md = true → a.replica = (intK 1 3).zero from fun h => by rw [hz h]; rfl)
  have Z3 := Lib.hid (show md = true → a.index = (natK .u32 4 4294967295).zero from fun h => by rw [hz h]; rfl)
  show Calls _ _ #[.pointer (some ⟨gc, 0, none⟩), .pointer (some ⟨g, o, none⟩)] w (Coded md P N gc sb f g o insK w (step insC md l a))
  have HR := Lib.hid (step_ins md l a)
  generalize step insC md l a = r at *
  have HN := Lib.hid hN; have HW := Lib.hid hw; have HRD := Lib.hid hr
  clear hcd hz hcs hN hw hr h0 s0 k0 h1 s1 k1 h2 s2 k2 h3 s3 k3 r0 r1 r2
  go_enter Tryz.func99, Tryz.ntmps99
  have CALL := Lib.hid (M0.out.call (natK_okay (kd := .u64) (size := 8) (most := 18446744073709551615) (by decide) (by decide)).fine long_codes Z0.out HN.out HW.out HRD.out hg hne (by omega) (Nat.le_of_ble_eq_true rfl) trivial ⟨(intK_okay (size := 1) (most := 63) (by decide) (by decide)).fine.slot _ _, ⟨(intK_okay (size := 1) (most := 3) (by decide) (by decide)).fine.slot _ _, ⟨(natK_okay (kd := .u32) (size := 4) (most := 4294967295) (by decide) (by decide)).fine.slot _ _, trivial⟩⟩⟩ trivial ⟨.inr (Nat.le_of_ble_eq_true rfl), ⟨.inr (Nat.le_of_ble_eq_true rfl), ⟨.inr (Nat.le_of_ble_eq_true rfl), trivial⟩⟩⟩)
  rw [Nat.add_zero] at CALL
  cases e0 : step (natK .u64 8 18446744073709551615).cod md l a.tx with
  | none =>
    rw [e0] at CALL
    have hr0 : r = none := by
      have h9 := HR.out
      change step eight md l a.tx = _ at e0; rw [e0] at h9; exact h9
    clear e0
    subst hr0
    go_wp2_with fail
    refine CALL.out.mono ?_
    rintro e w' ⟨h8, a', h9, h10, rfl, h11⟩
    exact ⟨rfl, coded_gave ⟨a', h9, h10, rfl, h11⟩ h8⟩
  | some p0 =>
    rw [e0] at CALL
    have hlen0 := (natK_okay (kd := .u64) (size := 8) (most := 18446744073709551615) (by decide) (by decide)).step M0.out.cd.bytes_of e0
    have E0 := Lib.hid e0
    clear e0
    go_wp2_with fail
    refine CALL.out.mono ?_
    rintro e w1 ⟨rfl, hM⟩
    have M1 := Lib.hid hM
    clear hM CALL
    have CALL := Lib.hid (M1.out.call (intK_okay (size := 1) (most := 63) (by decide) (by decide)).fine bucket_codes Z1.out HN.out HW.out HRD.out hg hne (by omega) (Nat.le_of_ble_eq_true rfl) ⟨(natK_okay (kd := .u64) (size := 8) (most := 18446744073709551615) (by decide) (by decide)).fine.slot _ _, trivial⟩ ⟨(intK_okay (size := 1) (most := 3) (by decide) (by decide)).fine.slot _ _, ⟨(natK_okay (kd := .u32) (size := 4) (most := 4294967295) (by decide) (by decide)).fine.slot _ _, trivial⟩⟩ ⟨.inl (Nat.le_of_ble_eq_true rfl), trivial⟩ ⟨.inr (Nat.le_of_ble_eq_true rfl), ⟨.inr (Nat.le_of_ble_eq_true rfl), trivial⟩⟩)
    cases e1 : step (intK 1 63).cod md p0.1 a.bucket with
    | none =>
      rw [e1] at CALL
      have hr0 : r = none := by
        have h9 := HR.out
        have hh0 := E0.out; change step eight md l a.tx = _ at hh0; rw [hh0] at h9; simp only [Option.bind_some] at h9
        change step (whole 1 63) md p0.1 a.bucket = _ at e1; rw [e1] at h9; exact h9
      clear e1
      subst hr0
      go_wp2_with fail
      refine CALL.out.mono ?_
      rintro e w' ⟨h8, a', h9, h10, rfl, h11⟩
      exact ⟨rfl, coded_gave ⟨a', h9, h10, rfl, h11⟩ h8⟩
    | some p1 =>
      rw [e1] at CALL
      have hlen1 := (intK_okay (size := 1) (most := 63) (by decide) (by decide)).step M1.out.cd.bytes_of e1
      have E1 := Lib.hid e1
      clear e1
      go_wp2_with fail
      refine CALL.out.mono ?_
      rintro e w2 ⟨rfl, hM⟩
      have M2 := Lib.hid hM
      clear hM CALL
      have CALL := Lib.hid (M2.out.call (intK_okay (size := 1) (most := 3) (by decide) (by decide)).fine replica_codes Z2.out HN.out HW.out HRD.out hg hne (by omega) (Nat.le_of_ble_eq_true rfl) ⟨(intK_okay (size := 1) (most := 63) (by decide) (by decide)).fine.slot _ _, ⟨(natK_okay (kd := .u64) (size := 8) (most := 18446744073709551615) (by decide) (by decide)).fine.slot _ _, trivial⟩⟩ ⟨(natK_okay (kd := .u32) (size := 4) (most := 4294967295) (by decide) (by decide)).fine.slot _ _, trivial⟩ ⟨.inl (Nat.le_of_ble_eq_true rfl), ⟨.inl (Nat.le_of_ble_eq_true rfl), trivial⟩⟩ ⟨.inr (Nat.le_of_ble_eq_true rfl), trivial⟩)
      cases e2 : step (intK 1 3).cod md p1.1 a.replica with
      | none =>
        rw [e2] at CALL
        have hr0 : r = none := by
          have h9 := HR.out
          have hh0 := E0.out; change step eight md l a.tx = _ at hh0; rw [hh0] at h9; simp only [Option.bind_some] at h9
          have hh1 := E1.out; change step (whole 1 63) md p0.1 a.bucket = _ at hh1; rw [hh1] at h9; simp only [Option.bind_some] at h9
          change step (whole 1 3) md p1.1 a.replica = _ at e2; rw [e2] at h9; exact h9
        clear e2
        subst hr0
        go_wp2_with fail
        refine CALL.out.mono ?_
        rintro e w' ⟨h8, a', h9, h10, rfl, h11⟩
        exact ⟨rfl, coded_gave ⟨a', h9, h10, rfl, h11⟩ h8⟩
      | some p2 =>
        rw [e2] at CALL
        have hlen2 := (intK_okay (size := 1) (most := 3) (by decide) (by decide)).step M2.out.cd.bytes_of e2
        have E2 := Lib.hid e2
        clear e2
        go_wp2_with fail
        refine CALL.out.mono ?_
        rintro e w3 ⟨rfl, hM⟩
        have M3 := Lib.hid hM
        clear hM CALL
        have CALL := Lib.hid (M3.out.call (natK_okay (kd := .u32) (size := 4) (most := 4294967295) (by decide) (by decide)).fine word_codes Z3.out HN.out HW.out HRD.out hg hne (by omega) (Nat.le_of_ble_eq_true rfl) ⟨(intK_okay (size := 1) (most := 3) (by decide) (by decide)).fine.slot _ _, ⟨(intK_okay (size := 1) (most := 63) (by decide) (by decide)).fine.slot _ _, ⟨(natK_okay (kd := .u64) (size := 8) (most := 18446744073709551615) (by decide) (by decide)).fine.slot _ _, trivial⟩⟩⟩ trivial ⟨.inl (Nat.le_of_ble_eq_true rfl), ⟨.inl (Nat.le_of_ble_eq_true rfl), ⟨.inl (Nat.le_of_ble_eq_true rfl), trivial⟩⟩⟩ trivial)
        cases e3 : step (natK .u32 4 4294967295).cod md p2.1 a.index with
        | none =>
          rw [e3] at CALL
          have hr0 : r = none := by
            have h9 := HR.out
            have hh0 := E0.out; change step eight md l a.tx = _ at hh0; rw [hh0] at h9; simp only [Option.bind_some] at h9
            have hh1 := E1.out; change step (whole 1 63) md p0.1 a.bucket = _ at hh1; rw [hh1] at h9; simp only [Option.bind_some] at h9
            have hh2 := E2.out; change step (whole 1 3) md p1.1 a.replica = _ at hh2; rw [hh2] at h9; simp only [Option.bind_some] at h9
            change step four_ md p2.1 a.index = _ at e3; rw [e3] at h9; exact h9
          clear e3
          subst hr0
          go_wp2_with fail
          refine CALL.out.mono ?_
          rintro e w' ⟨h8, a', h9, h10, rfl, h11⟩
          exact ⟨rfl, coded_gave ⟨a', h9, h10, rfl, h11⟩ h8⟩
        | some p3 =>
          rw [e3] at CALL
          have hlen3 := (natK_okay (kd := .u32) (size := 4) (most := 4294967295) (by decide) (by decide)).step M3.out.cd.bytes_of e3
          have E3 := Lib.hid e3
          clear e3
          go_wp2_with fail
          refine CALL.out.mono ?_
          rintro e w4 ⟨rfl, hM⟩
          have M4 := Lib.hid hM
          clear hM CALL
          have hr0 : r = some (p3.1, ⟨p0.2, p1.2, p2.2, p3.2⟩) := by
            have h9 := HR.out
            have hh0 := E0.out; change step eight md l a.tx = _ at hh0; rw [hh0] at h9; simp only [Option.bind_some] at h9
            have hh1 := E1.out; change step (whole 1 63) md p0.1 a.bucket = _ at hh1; rw [hh1] at h9; simp only [Option.bind_some] at h9
            have hh2 := E2.out; change step (whole 1 3) md p1.1 a.replica = _ at hh2; rw [hh2] at h9; simp only [Option.bind_some] at h9
            have hh3 := E3.out; change step four_ md p2.1 a.index = _ at hh3; rw [hh3] at h9; simp only [Option.bind_some] at h9
            first | exact h9 | (rw [hb]; exact h9)
          subst hr0
          go_wp2_with fail
          go_end0
          have M := M4.out
          obtain ⟨⟨d3, q3, x3⟩, ⟨d2, q2, x2⟩, ⟨d1, q1, x1⟩, ⟨d0, q0, x0⟩, _⟩ := M.dn
          change (natK .u64 8 18446744073709551615).is w4 (Grow md N w w4) d0 p0.2 at q0
          have t0 := (natK_okay (kd := .u64) (size := 8) (most := 18446744073709551615) (by decide) (by decide)).fine.size _ _ _ _ q0; change d0.length = 1 at t0; change Cells _ g (o + 0) d0 at x0
          change (intK 1 63).is w4 (Grow md N w w4) d1 p1.2 at q1
          have t1 := (intK_okay (size := 1) (most := 63) (by decide) (by decide)).fine.size _ _ _ _ q1; change d1.length = 1 at t1; change Cells _ g (o + 1) d1 at x1
          change (intK 1 3).is w4 (Grow md N w w4) d2 p2.2 at q2
          have t2 := (intK_okay (size := 1) (most := 3) (by decide) (by decide)).fine.size _ _ _ _ q2; change d2.length = 1 at t2; change Cells _ g (o + 2) d2 at x2
          change (natK .u32 4 4294967295).is w4 (Grow md N w w4) d3 p3.2 at q3
          have t3 := (natK_okay (kd := .u32) (size := 4) (most := 4294967295) (by decide) (by decide)).fine.size _ _ _ _ q3; change d3.length = 1 at t3; change Cells _ g (o + 3) d3 at x3
          have y2 := cells_join x2 (show Cells _ g (o + 2 + d2.length) _ from by rw [t2, Nat.add_assoc]; exact x3)
          have y1 := cells_join x1 (show Cells _ g (o + 1 + d1.length) _ from by rw [t1, Nat.add_assoc]; exact y2)
          have y0 := cells_join x0 (show Cells _ g (o + 0 + d0.length) _ from by rw [t0, Nat.add_assoc]; exact y1)
          exact ⟨M.safe, rfl, M.cd, ⟨d0 ++ (d1 ++ (d2 ++ (d3))), ⟨d0, d1, d2, d3, rfl, q0, q1, q2, q3⟩, by rw [Nat.add_zero] at y0; exact y0⟩, M.out, M.fz⟩

/-- dcr -/
def dcrK : Kd Dcr := ⟨dcrC, 7, ⟨0, 0, 0, ⟨0, 0⟩, 0, 0⟩, fun w N cs a => ∃ c0 c1 c2 c3 c4 c5, cs = c0 ++ (c1 ++ (c2 ++ (c3 ++ (c4 ++ (c5))))) ∧ (intK 1 5).is w N c0 a.kind ∧ (intK 1 255).is w N c1 a.node ∧ (intK 1 255).is w N c2 a.by_ ∧ arcK.is w N c3 a.arc ∧ (natK .u32 4 4294967295).is w N c4 a.count ∧ (natK .u32 4 4294967295).is w N c5 a.seen⟩
theorem dcrK_fine : dcrK.Fine := by
  refine ⟨fun w N cs a ha => ?_, fun w w' N P cs a ha hs hN => ?_, fun w N M cs a ha hm => ?_⟩
  · obtain ⟨c0, c1, c2, c3, c4, c5, rfl, h0, h1, h2, h3, h4, h5⟩ := ha
    have s0 := (intK_okay (size := 1) (most := 5) (by decide) (by decide)).fine.size _ _ _ _ h0; have s1 := (intK_okay (size := 1) (most := 255) (by decide) (by decide)).fine.size _ _ _ _ h1; have s2 := (intK_okay (size := 1) (most := 255) (by decide) (by decide)).fine.size _ _ _ _ h2; have s3 := arcK_okay.fine.size _ _ _ _ h3; have s4 := (natK_okay (kd := .u32) (size := 4) (most := 4294967295) (by decide) (by decide)).fine.size _ _ _ _ h4; have s5 := (natK_okay (kd := .u32) (size := 4) (most := 4294967295) (by decide) (by decide)).fine.size _ _ _ _ h5
    change c0.length = 1 at s0; change c1.length = 1 at s1; change c2.length = 1 at s2; change c3.length = 2 at s3; change c4.length = 1 at s4; change c5.length = 1 at s5
    show _ = 7
    simp only [List.length_append]; omega
  · obtain ⟨c0, c1, c2, c3, c4, c5, e, h0, h1, h2, h3, h4, h5⟩ := ha
    exact ⟨c0, c1, c2, c3, c4, c5, e, (intK_okay (size := 1) (most := 5) (by decide) (by decide)).fine.safe _ _ _ _ _ _ h0 hs hN, (intK_okay (size := 1) (most := 255) (by decide) (by decide)).fine.safe _ _ _ _ _ _ h1 hs hN, (intK_okay (size := 1) (most := 255) (by decide) (by decide)).fine.safe _ _ _ _ _ _ h2 hs hN, arcK_okay.fine.safe _ _ _ _ _ _ h3 hs hN, (natK_okay (kd := .u32) (size := 4) (most := 4294967295) (by decide) (by decide)).fine.safe _ _ _ _ _ _ h4 hs hN, (natK_okay (kd := .u32) (size := 4) (most := 4294967295) (by decide) (by decide)).fine.safe _ _ _ _ _ _ h5 hs hN⟩
  · obtain ⟨c0, c1, c2, c3, c4, c5, e, h0, h1, h2, h3, h4, h5⟩ := ha
    exact ⟨c0, c1, c2, c3, c4, c5, e, (intK_okay (size := 1) (most := 5) (by decide) (by decide)).fine.mono _ _ _ _ _ h0 hm, (intK_okay (size := 1) (most := 255) (by decide) (by decide)).fine.mono _ _ _ _ _ h1 hm, (intK_okay (size := 1) (most := 255) (by decide) (by decide)).fine.mono _ _ _ _ _ h2 hm, arcK_okay.fine.mono _ _ _ _ _ h3 hm, (natK_okay (kd := .u32) (size := 4) (most := 4294967295) (by decide) (by decide)).fine.mono _ _ _ _ _ h4 hm, (natK_okay (kd := .u32) (size := 4) (most := 4294967295) (by decide) (by decide)).fine.mono _ _ _ _ _ h5 hm⟩
theorem step_dcr (md : Bool) (l : List Nat) (a : Dcr) : step dcrC md l a = (step (whole 1 5) md l a.kind).bind fun p0 => (step (whole 1 255) md p0.1 a.node).bind fun p1 => (step (whole 1 255) md p1.1 a.by_).bind fun p2 => (step arcC md p2.1 a.arc).bind fun p3 => (step four_ md p3.1 a.count).bind fun p4 => (step four_ md p4.1 a.seen).bind fun p5 => some (p5.1, ⟨p0.2, p1.2, p2.2, p3.2, p4.2, p5.2⟩) := by
  unfold dcrC
  rw [step_map _ _ _ _ _ _ (fun _ => rfl)]
  simp only [step_two, Option.map_bind, Option.bind_assoc, Option.bind_some, Option.map_some, Function.comp_def]
theorem dcrK_okay : dcrK.Okay 56 := ⟨dcrK_fine, dcr_good, fun a ha => enc_len (c := dcrC) ha fun p hp => by
  rw [step_dcr] at hp
  obtain ⟨p0, e0, hp⟩ := bind_some_of hp
  have t0 := okay_stepw (intK_okay (size := 1) (most := 5) (by decide) (by decide)) (show step (intK 1 5).cod false _ _ = _ from e0)
  obtain ⟨p1, e1, hp⟩ := bind_some_of hp
  have t1 := okay_stepw (intK_okay (size := 1) (most := 255) (by decide) (by decide)) (show step (intK 1 255).cod false _ _ = _ from e1)
  obtain ⟨p2, e2, hp⟩ := bind_some_of hp
  have t2 := okay_stepw (intK_okay (size := 1) (most := 255) (by decide) (by decide)) (show step (intK 1 255).cod false _ _ = _ from e2)
  obtain ⟨p3, e3, hp⟩ := bind_some_of hp
  have t3 := okay_stepw arcK_okay (show step arcK.cod false _ _ = _ from e3)
  obtain ⟨p4, e4, hp⟩ := bind_some_of hp
  have t4 := okay_stepw (natK_okay (kd := .u32) (size := 4) (most := 4294967295) (by decide) (by decide)) (show step (natK .u32 4 4294967295).cod false _ _ = _ from e4)
  obtain ⟨p5, e5, hp⟩ := bind_some_of hp
  have t5 := okay_stepw (natK_okay (kd := .u32) (size := 4) (most := 4294967295) (by decide) (by decide)) (show step (natK .u32 4 4294967295).cod false _ _ = _ from e5)
  injection hp with hp
  subst hp
  simp at *
  omega⟩

set_option maxHeartbeats 8000000 in
theorem dcr_codes : Codes 51 [] dcrK 56 := by
  intro md P N gc sb f l g o cs a w hcd hz his hcs hN hw hr hg hne hl
  obtain ⟨c0, c1, c2, c3, c4, c5, rfl, h0, h1, h2, h3, h4, h5⟩ := his
  have s0 := (intK_okay (size := 1) (most := 5) (by decide) (by decide)).fine.size _ _ _ _ h0; change c0.length = 1 at s0
  have s1 := (intK_okay (size := 1) (most := 255) (by decide) (by decide)).fine.size _ _ _ _ h1; change c1.length = 1 at s1
  have s2 := (intK_okay (size := 1) (most := 255) (by decide) (by decide)).fine.size _ _ _ _ h2; change c2.length = 1 at s2
  have s3 := arcK_okay.fine.size _ _ _ _ h3; change c3.length = 2 at s3
  have s4 := (natK_okay (kd := .u32) (size := 4) (most := 4294967295) (by decide) (by decide)).fine.size _ _ _ _ h4; change c4.length = 1 at s4
  have s5 := (natK_okay (kd := .u32) (size := 4) (most := 4294967295) (by decide) (by decide)).fine.size _ _ _ _ h5; change c5.length = 1 at s5
  have k0 := cells_left hcs; have r0 := cells_right hcs; rw [s0] at r0
  have k1 := cells_left r0; have r1 := cells_right r0; rw [s1] at r1
  rw [Nat.add_assoc] at r1
  have k2 := cells_left r1; have r2 := cells_right r1; rw [s2] at r2
  rw [Nat.add_assoc] at r2
  have k3 := cells_left r2; have r3 := cells_right r2; rw [s3] at r3
  rw [Nat.add_assoc] at r3
  have k4 := cells_left r3; have r4 := cells_right r3; rw [s4] at r4
  rw [Nat.add_assoc] at r4
  have k5 := r4
  have M0 := Lib.hid (Mid.start (sz := 7) hcd (show Slots w (Grow md N w w) g o [(intK 1 5).slot 0 a.kind, (intK 1 255).slot 1 a.node, (intK 1 255).slot 2 a.by_, arcK.slot 3 a.arc, (natK .u32 4 4294967295).slot 5 a.count, (natK .u32 4 4294967295).slot 6 a.seen] from ⟨⟨c0, (intK_okay (size := 1) (most := 5) (by decide) (by decide)).fine.mono _ _ (Grow md N w w) _ _ h0 (fun b hb => Or.inl hb), k0⟩, ⟨⟨c1, (intK_okay (size := 1) (most := 255) (by decide) (by decide)).fine.mono _ _ (Grow md N w w) _ _ h1 (fun b hb => Or.inl hb), k1⟩, ⟨⟨c2, (intK_okay (size := 1) (most := 255) (by decide) (by decide)).fine.mono _ _ (Grow md N w w) _ _ h2 (fun b hb => Or.inl hb), k2⟩, ⟨⟨c3, arcK_okay.fine.mono _ _ (Grow md N w w) _ _ h3 (fun b hb => Or.inl hb), k3⟩, ⟨⟨c4, (natK_okay (kd := .u32) (size := 4) (most := 4294967295) (by decide) (by decide)).fine.mono _ _ (Grow md N w w) _ _ h4 (fun b hb => Or.inl hb), k4⟩, ⟨⟨c5, (natK_okay (kd := .u32) (size := 4) (most := 4294967295) (by decide) (by decide)).fine.mono _ _ (Grow md N w w) _ _ h5 (fun b hb => Or.inl hb), k5⟩, trivial⟩⟩⟩⟩⟩⟩))
  have Z0 := Lib.hid (show md = true → a.kind = (intK 1 5).zero from fun h => by rw [hz h]; rfl)
  have Z1 := Lib.hid (show md = true → a.node = (intK 1 255).zero from fun h => by rw [hz h]; rfl)
  have Z2 := Lib.hid (show md = true → a.by_ = (intK 1 255).zero from fun h => by rw [hz h]; rfl)
  have Z3 := Lib.hid (show md = true → a.arc = arcK.zero from fun h => by rw [hz h]; rfl)
  have Z4 := Lib.hid (show md = true → a.count = (natK .u32 4 4294967295).zero from fun h => by rw [hz h]; rfl)
  have Z5 := Lib.hid (show md = true → a.seen = (natK .u32 4 4294967295).zero from fun h => by rw [hz h]; rfl)
  show Calls _ _ #[.pointer (some ⟨gc, 0, none⟩), .pointer (some ⟨g, o, none⟩)] w (Coded md P N gc sb f g o dcrK w (step dcrC md l a))
  have HR := Lib.hid (step_dcr md l a)
  generalize step dcrC md l a = r at *
  have HN := Lib.hid hN; have HW := Lib.hid hw; have HRD := Lib.hid hr
  clear hcd hz hcs hN hw hr h0 s0 k0 h1 s1 k1 h2 s2 k2 h3 s3 k3 h4 s4 k4 h5 s5 k5 r0 r1 r2 r3 r4
  go_enter Tryz.func51, Tryz.ntmps51
  have CALL := Lib.hid (M0.out.call (intK_okay (size := 1) (most := 5) (by decide) (by decide)).fine (show Codes _ [.int .i64 1, .int .u64 5] _ _ from numdecree_codes 1 5 (by decide) (by decide)) Z0.out HN.out HW.out HRD.out hg hne (by omega) (Nat.le_of_ble_eq_true rfl) trivial ⟨(intK_okay (size := 1) (most := 255) (by decide) (by decide)).fine.slot _ _, ⟨(intK_okay (size := 1) (most := 255) (by decide) (by decide)).fine.slot _ _, ⟨arcK_okay.fine.slot _ _, ⟨(natK_okay (kd := .u32) (size := 4) (most := 4294967295) (by decide) (by decide)).fine.slot _ _, ⟨(natK_okay (kd := .u32) (size := 4) (most := 4294967295) (by decide) (by decide)).fine.slot _ _, trivial⟩⟩⟩⟩⟩ trivial ⟨.inr (Nat.le_of_ble_eq_true rfl), ⟨.inr (Nat.le_of_ble_eq_true rfl), ⟨.inr (Nat.le_of_ble_eq_true rfl), ⟨.inr (Nat.le_of_ble_eq_true rfl), ⟨.inr (Nat.le_of_ble_eq_true rfl), trivial⟩⟩⟩⟩⟩)
  rw [Nat.add_zero] at CALL
  cases e0 : step (intK 1 5).cod md l a.kind with
  | none =>
    rw [e0] at CALL
    have hr0 : r = none := by
      have h9 := HR.out
      change step (whole 1 5) md l a.kind = _ at e0; rw [e0] at h9; exact h9
    clear e0
    subst hr0
    go_wp2_with fail
    refine CALL.out.mono ?_
    rintro e w' ⟨h8, a', h9, h10, rfl, h11⟩
    exact ⟨rfl, coded_gave ⟨a', h9, h10, rfl, h11⟩ h8⟩
  | some p0 =>
    rw [e0] at CALL
    have hlen0 := (intK_okay (size := 1) (most := 5) (by decide) (by decide)).step M0.out.cd.bytes_of e0
    have E0 := Lib.hid e0
    clear e0
    go_wp2_with fail
    refine CALL.out.mono ?_
    rintro e w1 ⟨rfl, hM⟩
    have M1 := Lib.hid hM
    clear hM CALL
    have CALL := Lib.hid (M1.out.call (intK_okay (size := 1) (most := 255) (by decide) (by decide)).fine octet_codes Z1.out HN.out HW.out HRD.out hg hne (by omega) (Nat.le_of_ble_eq_true rfl) ⟨(intK_okay (size := 1) (most := 5) (by decide) (by decide)).fine.slot _ _, trivial⟩ ⟨(intK_okay (size := 1) (most := 255) (by decide) (by decide)).fine.slot _ _, ⟨arcK_okay.fine.slot _ _, ⟨(natK_okay (kd := .u32) (size := 4) (most := 4294967295) (by decide) (by decide)).fine.slot _ _, ⟨(natK_okay (kd := .u32) (size := 4) (most := 4294967295) (by decide) (by decide)).fine.slot _ _, trivial⟩⟩⟩⟩ ⟨.inl (Nat.le_of_ble_eq_true rfl), trivial⟩ ⟨.inr (Nat.le_of_ble_eq_true rfl), ⟨.inr (Nat.le_of_ble_eq_true rfl), ⟨.inr (Nat.le_of_ble_eq_true rfl), ⟨.inr (Nat.le_of_ble_eq_true rfl), trivial⟩⟩⟩⟩)
    cases e1 : step (intK 1 255).cod md p0.1 a.node with
    | none =>
      rw [e1] at CALL
      have hr0 : r = none := by
        have h9 := HR.out
        have hh0 := E0.out; change step (whole 1 5) md l a.kind = _ at hh0; rw [hh0] at h9; simp only [Option.bind_some] at h9
        change step (whole 1 255) md p0.1 a.node = _ at e1; rw [e1] at h9; exact h9
      clear e1
      subst hr0
      go_wp2_with fail
      refine CALL.out.mono ?_
      rintro e w' ⟨h8, a', h9, h10, rfl, h11⟩
      exact ⟨rfl, coded_gave ⟨a', h9, h10, rfl, h11⟩ h8⟩
    | some p1 =>
      rw [e1] at CALL
      have hlen1 := (intK_okay (size := 1) (most := 255) (by decide) (by decide)).step M1.out.cd.bytes_of e1
      have E1 := Lib.hid e1
      clear e1
      go_wp2_with fail
      refine CALL.out.mono ?_
      rintro e w2 ⟨rfl, hM⟩
      have M2 := Lib.hid hM
      clear hM CALL
      have CALL := Lib.hid (M2.out.call (intK_okay (size := 1) (most := 255) (by decide) (by decide)).fine octet_codes Z2.out HN.out HW.out HRD.out hg hne (by omega) (Nat.le_of_ble_eq_true rfl) ⟨(intK_okay (size := 1) (most := 255) (by decide) (by decide)).fine.slot _ _, ⟨(intK_okay (size := 1) (most := 5) (by decide) (by decide)).fine.slot _ _, trivial⟩⟩ ⟨arcK_okay.fine.slot _ _, ⟨(natK_okay (kd := .u32) (size := 4) (most := 4294967295) (by decide) (by decide)).fine.slot _ _, ⟨(natK_okay (kd := .u32) (size := 4) (most := 4294967295) (by decide) (by decide)).fine.slot _ _, trivial⟩⟩⟩ ⟨.inl (Nat.le_of_ble_eq_true rfl), ⟨.inl (Nat.le_of_ble_eq_true rfl), trivial⟩⟩ ⟨.inr (Nat.le_of_ble_eq_true rfl), ⟨.inr (Nat.le_of_ble_eq_true rfl), ⟨.inr (Nat.le_of_ble_eq_true rfl), trivial⟩⟩⟩)
      cases e2 : step (intK 1 255).cod md p1.1 a.by_ with
      | none =>
        rw [e2] at CALL
        have hr0 : r = none := by
          have h9 := HR.out
          have hh0 := E0.out; change step (whole 1 5) md l a.kind = _ at hh0; rw [hh0] at h9; simp only [Option.bind_some] at h9
          have hh1 := E1.out; change step (whole 1 255) md p0.1 a.node = _ at hh1; rw [hh1] at h9; simp only [Option.bind_some] at h9
          change step (whole 1 255) md p1.1 a.by_ = _ at e2; rw [e2] at h9; exact h9
        clear e2
        subst hr0
        go_wp2_with fail
        refine CALL.out.mono ?_
        rintro e w' ⟨h8, a', h9, h10, rfl, h11⟩
        exact ⟨rfl, coded_gave ⟨a', h9, h10, rfl, h11⟩ h8⟩
      | some p2 =>
        rw [e2] at CALL
        have hlen2 := (intK_okay (size := 1) (most := 255) (by decide) (by decide)).step M2.out.cd.bytes_of e2
        have E2 := Lib.hid e2
        clear e2
        go_wp2_with fail
        refine CALL.out.mono ?_
        rintro e w3 ⟨rfl, hM⟩
        have M3 := Lib.hid hM
        clear hM CALL
        have CALL := Lib.hid (M3.out.call arcK_okay.fine arc_codes Z3.out HN.out HW.out HRD.out hg hne (by omega) (Nat.le_of_ble_eq_true rfl) ⟨(intK_okay (size := 1) (most := 255) (by decide) (by decide)).fine.slot _ _, ⟨(intK_okay (size := 1) (most := 255) (by decide) (by decide)).fine.slot _ _, ⟨(intK_okay (size := 1) (most := 5) (by decide) (by decide)).fine.slot _ _, trivial⟩⟩⟩ ⟨(natK_okay (kd := .u32) (size := 4) (most := 4294967295) (by decide) (by decide)).fine.slot _ _, ⟨(natK_okay (kd := .u32) (size := 4) (most := 4294967295) (by decide) (by decide)).fine.slot _ _, trivial⟩⟩ ⟨.inl (Nat.le_of_ble_eq_true rfl), ⟨.inl (Nat.le_of_ble_eq_true rfl), ⟨.inl (Nat.le_of_ble_eq_true rfl), trivial⟩⟩⟩ ⟨.inr (Nat.le_of_ble_eq_true rfl), ⟨.inr (Nat.le_of_ble_eq_true rfl), trivial⟩⟩)
        cases e3 : step arcK.cod md p2.1 a.arc with
        | none =>
          rw [e3] at CALL
          have hr0 : r = none := by
            have h9 := HR.out
            have hh0 := E0.out; change step (whole 1 5) md l a.kind = _ at hh0; rw [hh0] at h9; simp only [Option.bind_some] at h9
            have hh1 := E1.out; change step (whole 1 255) md p0.1 a.node = _ at hh1; rw [hh1] at h9; simp only [Option.bind_some] at h9
            have hh2 := E2.out; change step (whole 1 255) md p1.1 a.by_ = _ at hh2; rw [hh2] at h9; simp only [Option.bind_some] at h9
            change step arcC md p2.1 a.arc = _ at e3; rw [e3] at h9; exact h9
          clear e3
          subst hr0
          go_wp2_with fail
          refine CALL.out.mono ?_
          rintro e w' ⟨h8, a', h9, h10, rfl, h11⟩
          exact ⟨rfl, coded_gave ⟨a', h9, h10, rfl, h11⟩ h8⟩
        | some p3 =>
          rw [e3] at CALL
          have hlen3 := arcK_okay.step M3.out.cd.bytes_of e3
          have E3 := Lib.hid e3
          clear e3
          go_wp2_with fail
          refine CALL.out.mono ?_
          rintro e w4 ⟨rfl, hM⟩
          have M4 := Lib.hid hM
          clear hM CALL
          have CALL := Lib.hid (M4.out.call (natK_okay (kd := .u32) (size := 4) (most := 4294967295) (by decide) (by decide)).fine word_codes Z4.out HN.out HW.out HRD.out hg hne (by omega) (Nat.le_of_ble_eq_true rfl) ⟨arcK_okay.fine.slot _ _, ⟨(intK_okay (size := 1) (most := 255) (by decide) (by decide)).fine.slot _ _, ⟨(intK_okay (size := 1) (most := 255) (by decide) (by decide)).fine.slot _ _, ⟨(intK_okay (size := 1) (most := 5) (by decide) (by decide)).fine.slot _ _, trivial⟩⟩⟩⟩ ⟨(natK_okay (kd := .u32) (size := 4) (most := 4294967295) (by decide) (by decide)).fine.slot _ _, trivial⟩ ⟨.inl (Nat.le_of_ble_eq_true rfl), ⟨.inl (Nat.le_of_ble_eq_true rfl), ⟨.inl (Nat.le_of_ble_eq_true rfl), ⟨.inl (Nat.le_of_ble_eq_true rfl), trivial⟩⟩⟩⟩ ⟨.inr (Nat.le_of_ble_eq_true rfl), trivial⟩)
          cases e4 : step (natK .u32 4 4294967295).cod md p3.1 a.count with
          | none =>
            rw [e4] at CALL
            have hr0 : r = none := by
              have h9 := HR.out
              have hh0 := E0.out; change step (whole 1 5) md l a.kind = _ at hh0; rw [hh0] at h9; simp only [Option.bind_some] at h9
              have hh1 := E1.out; change step (whole 1 255) md p0.1 a.node = _ at hh1; rw [hh1] at h9; simp only [Option.bind_some] at h9
              have hh2 := E2.out; change step (whole 1 255) md p1.1 a.by_ = _ at hh2; rw [hh2] at h9; simp only [Option.bind_some] at h9
              have hh3 := E3.out; change step arcC md p2.1 a.arc = _ at hh3; rw [hh3] at h9; simp only [Option.bind_some] at h9
              change step four_ md p3.1 a.count = _ at e4; rw [e4] at h9; exact h9
            clear e4
            subst hr0
            go_wp2_with fail
            refine CALL.out.mono ?_
            rintro e w' ⟨h8, a', h9, h10, rfl, h11⟩
            exact ⟨rfl, coded_gave ⟨a', h9, h10, rfl, h11⟩ h8⟩
          | some p4 =>
            rw [e4] at CALL
            have hlen4 := (natK_okay (kd := .u32) (size := 4) (most := 4294967295) (by decide) (by decide)).step M4.out.cd.bytes_of e4
            have E4 := Lib.hid e4
            clear e4
            go_wp2_with fail
            refine CALL.out.mono ?_
            rintro e w5 ⟨rfl, hM⟩
            have M5 := Lib.hid hM
            clear hM CALL
            have CALL := Lib.hid (M5.out.call (natK_okay (kd := .u32) (size := 4) (most := 4294967295) (by decide) (by decide)).fine word_codes Z5.out HN.out HW.out HRD.out hg hne (by omega) (Nat.le_of_ble_eq_true rfl) ⟨(natK_okay (kd := .u32) (size := 4) (most := 4294967295) (by decide) (by decide)).fine.slot _ _, ⟨arcK_okay.fine.slot _ _, ⟨(intK_okay (size := 1) (most := 255) (by decide) (by decide)).fine.slot _ _, ⟨(intK_okay (size := 1) (most := 255) (by decide) (by decide)).fine.slot _ _, ⟨(intK_okay (size := 1) (most := 5) (by decide) (by decide)).fine.slot _ _, trivial⟩⟩⟩⟩⟩ trivial ⟨.inl (Nat.le_of_ble_eq_true rfl), ⟨.inl (Nat.le_of_ble_eq_true rfl), ⟨.inl (Nat.le_of_ble_eq_true rfl), ⟨.inl (Nat.le_of_ble_eq_true rfl), ⟨.inl (Nat.le_of_ble_eq_true rfl), trivial⟩⟩⟩⟩⟩ trivial)
            cases e5 : step (natK .u32 4 4294967295).cod md p4.1 a.seen with
            | none =>
              rw [e5] at CALL
              have hr0 : r = none := by
                have h9 := HR.out
                have hh0 := E0.out; change step (whole 1 5) md l a.kind = _ at hh0; rw [hh0] at h9; simp only [Option.bind_some] at h9
                have hh1 := E1.out; change step (whole 1 255) md p0.1 a.node = _ at hh1; rw [hh1] at h9; simp only [Option.bind_some] at h9
                have hh2 := E2.out; change step (whole 1 255) md p1.1 a.by_ = _ at hh2; rw [hh2] at h9; simp only [Option.bind_some] at h9
                have hh3 := E3.out; change step arcC md p2.1 a.arc = _ at hh3; rw [hh3] at h9; simp only [Option.bind_some] at h9
                have hh4 := E4.out; change step four_ md p3.1 a.count = _ at hh4; rw [hh4] at h9; simp only [Option.bind_some] at h9
                change step four_ md p4.1 a.seen = _ at e5; rw [e5] at h9; exact h9
              clear e5
              subst hr0
              go_wp2_with fail
              refine CALL.out.mono ?_
              rintro e w' ⟨h8, a', h9, h10, rfl, h11⟩
              exact ⟨rfl, coded_gave ⟨a', h9, h10, rfl, h11⟩ h8⟩
            | some p5 =>
              rw [e5] at CALL
              have hlen5 := (natK_okay (kd := .u32) (size := 4) (most := 4294967295) (by decide) (by decide)).step M5.out.cd.bytes_of e5
              have E5 := Lib.hid e5
              clear e5
              go_wp2_with fail
              refine CALL.out.mono ?_
              rintro e w6 ⟨rfl, hM⟩
              have M6 := Lib.hid hM
              clear hM CALL
              have hr0 : r = some (p5.1, ⟨p0.2, p1.2, p2.2, p3.2, p4.2, p5.2⟩) := by
                have h9 := HR.out
                have hh0 := E0.out; change step (whole 1 5) md l a.kind = _ at hh0; rw [hh0] at h9; simp only [Option.bind_some] at h9
                have hh1 := E1.out; change step (whole 1 255) md p0.1 a.node = _ at hh1; rw [hh1] at h9; simp only [Option.bind_some] at h9
                have hh2 := E2.out; change step (whole 1 255) md p1.1 a.by_ = _ at hh2; rw [hh2] at h9; simp only [Option.bind_some] at h9
                have hh3 := E3.out; change step arcC md p2.1 a.arc = _ at hh3; rw [hh3] at h9; simp only [Option.bind_some] at h9
                have hh4 := E4.out; change step four_ md p3.1 a.count = _ at hh4; rw [hh4] at h9; simp only [Option.bind_some] at h9
                have hh5 := E5.out; change step four_ md p4.1 a.seen = _ at hh5; rw [hh5] at h9; simp only [Option.bind_some] at h9
                first | exact h9 | (rw [hb]; exact h9)
              subst hr0
              go_wp2_with fail
              go_end0
              have M := M6.out
              obtain ⟨⟨d5, q5, x5⟩, ⟨d4, q4, x4⟩, ⟨d3, q3, x3⟩, ⟨d2, q2, x2⟩, ⟨d1, q1, x1⟩, ⟨d0, q0, x0⟩, _⟩ := M.dn
              change (intK 1 5).is w6 (Grow md N w w6) d0 p0.2 at q0
              have t0 := (intK_okay (size := 1) (most := 5) (by decide) (by decide)).fine.size _ _ _ _ q0; change d0.length = 1 at t0; change Cells _ g (o + 0) d0 at x0
              change (intK 1 255).is w6 (Grow md N w w6) d1 p1.2 at q1
              have t1 := (intK_okay (size := 1) (most := 255) (by decide) (by decide)).fine.size _ _ _ _ q1; change d1.length = 1 at t1; change Cells _ g (o + 1) d1 at x1
              change (intK 1 255).is w6 (Grow md N w w6) d2 p2.2 at q2
              have t2 := (intK_okay (size := 1) (most := 255) (by decide) (by decide)).fine.size _ _ _ _ q2; change d2.length = 1 at t2; change Cells _ g (o + 2) d2 at x2
              change arcK.is w6 (Grow md N w w6) d3 p3.2 at q3
              have t3 := arcK_okay.fine.size _ _ _ _ q3; change d3.length = 2 at t3; change Cells _ g (o + 3) d3 at x3
              change (natK .u32 4 4294967295).is w6 (Grow md N w w6) d4 p4.2 at q4
              have t4 := (natK_okay (kd := .u32) (size := 4) (most := 4294967295) (by decide) (by decide)).fine.size _ _ _ _ q4; change d4.length = 1 at t4; change Cells _ g (o + 5) d4 at x4
              change (natK .u32 4 4294967295).is w6 (Grow md N w w6) d5 p5.2 at q5
              have t5 := (natK_okay (kd := .u32) (size := 4) (most := 4294967295) (by decide) (by decide)).fine.size _ _ _ _ q5; change d5.length = 1 at t5; change Cells _ g (o + 6) d5 at x5
              have y4 := cells_join x4 (show Cells _ g (o + 5 + d4.length) _ from by rw [t4, Nat.add_assoc]; exact x5)
              have y3 := cells_join x3 (show Cells _ g (o + 3 + d3.length) _ from by rw [t3, Nat.add_assoc]; exact y4)
              have y2 := cells_join x2 (show Cells _ g (o + 2 + d2.length) _ from by rw [t2, Nat.add_assoc]; exact y3)
              have y1 := cells_join x1 (show Cells _ g (o + 1 + d1.length) _ from by rw [t1, Nat.add_assoc]; exact y2)
              have y0 := cells_join x0 (show Cells _ g (o + 0 + d0.length) _ from by rw [t0, Nat.add_assoc]; exact y1)
              exact ⟨M.safe, rfl, M.cd, ⟨d0 ++ (d1 ++ (d2 ++ (d3 ++ (d4 ++ (d5))))), ⟨d0, d1, d2, d3, d4, d5, rfl, q0, q1, q2, q3, q4, q5⟩, by rw [Nat.add_zero] at y0; exact y0⟩, M.out, M.fz⟩

end Go.Proofs.YtngcbpgafjnfaaaGreatDoor
