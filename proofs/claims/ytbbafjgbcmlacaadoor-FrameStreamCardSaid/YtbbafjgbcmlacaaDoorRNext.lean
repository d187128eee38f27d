/- Next of the document's answer. -/
import Derived.Test.YtbbafjgbcmlacaaDoorFeed
import Derived.Test.YtbbafjgbcmlacaaDoorRFrame
namespace Go.Proofs.YtbbafjgbcmlacaaDoor
open Go.RowKit Go.Sort
set_option linter.unusedVariables false

theorem num_take (l : List Nat) (k : Nat) (h : 4 ≤ k) : num (l.take k) = num l := by
  rw [num_eq, num_eq, bt_take (by omega), bt_take (by omega), bt_take (by omega), bt_take (by omega)]

theorem unw_whole {l : List Nat} (h0 : bt l 0 = 84) (h1 : bt l 1 = 78) (hN : num (l.drop 2) ≤ 65536) (hE : ends l ≤ l.length) :
    unw (l.take (ends l)) = if num (l.drop 6) ≠ fsum (l.take (ends l)) then ([], 34) else ((l.take (ends l)).drop 10, 0) := by
  have e10 : 10 ≤ ends l := by unfold ends; omega
  have hlen : (l.take (ends l)).length = ends l := by simp; omega
  have e2 : num ((l.take (ends l)).drop 2) = num (l.drop 2) := by rw [List.drop_take, num_take _ _ (by omega)]
  have e6 : num ((l.take (ends l)).drop 6) = num (l.drop 6) := by rw [List.drop_take, num_take _ _ (by omega)]
  unfold unw
  rw [hlen, e2, e6, bt_take (by omega), bt_take (by omega), if_neg (by simp [h0, h1]; omega), if_neg (by omega), if_neg (by unfold ends; omega)]

set_option maxHeartbeats 4000000 in
theorem rnext_any (B R : Nat) (ao : Option Addr) (n cap : Nat) (l : List Nat) (hn : n ≤ 131072) (w : World) (hh : Held w B R ao n cap l) :
    Calls Tryd.prog 22 #[.pointer (some ⟨R, 0, none⟩)] w (Nexted B R ao w l) := by
  have hc := hh.cell
  have hlen := hh.own.len
  have hle := hh.own.le
  by_cases h0 : n = 0
  · have hf : flt l = 0 := by unfold flt; rw [if_neg (by omega), if_neg (by omega), if_neg (by omega)]
    have hg : got l = false := by unfold got; exact decide_eq_false fun h => by have := got_len h.2; omega
    have HNO := Lib.hid (hf ▸ Nexted.no hg hh (Below.refl _ _))
    clear hh hf hg hlen
    go_enter Tryd.func22, Tryd.ntmps22
    go_wp2_with fail
    go_ret3
    exact HNO.out
  · obtain ⟨g, o, rfl, hg, hc0⟩ := hh.own.rd.at_ 0 (by omega)
    rw [Nat.add_zero] at hc0
    by_cases hx : bt l 0 = 84
    · rw [hx] at hc0
      by_cases h1 : n = 1
      · have hf : flt l = 0 := by unfold flt; rw [if_neg (by omega), if_neg (by omega), if_neg (by omega)]
        have hg' : got l = false := by unfold got; exact decide_eq_false fun h => by have := got_len h.2; omega
        have HNO := Lib.hid (hf ▸ Nexted.no hg' hh (Below.refl _ _))
        clear hh hf hg' hlen hx
        go_enter Tryd.func22, Tryd.ntmps22
        go_wp2_with fail
        go_ret3
        exact HNO.out
      · obtain ⟨g', o', e', _, hc1⟩ := hh.own.rd.at_ 1 (by omega)
        cases e'
        by_cases hy : bt l 1 = 78
        · rw [hy] at hc1
          by_cases h6 : n < 6
          · have hf : flt l = 0 := by unfold flt; rw [if_neg (by omega), if_neg (by omega), if_neg (by omega)]
            have hg' : got l = false := by unfold got; exact decide_eq_false fun h => by have := got_len h.2; omega
            have HNO := Lib.hid (hf ▸ Nexted.no hg' hh (Below.refl _ _))
            clear hh hf hg' hlen hx hy
            go_enter Tryd.func22, Tryd.ntmps22
            go_wp2_with fail
            go_ret3
            exact HNO.out
          · have W1 := Lib.hid (num_take _ _ (Nat.le_refl 4) ▸ number_any _ 4 (cap - 2) ((l.drop 2).take 4) (by simp; omega) (by omega) w (hh.own.rd.off 2 4))
            have hNl := num_lt (l := l.drop 2) (fun j => by rw [bt_drop]; exact hh.own.rd.byte _)
            obtain ⟨N, hN⟩ : ∃ N, N = num (l.drop 2) := ⟨_, rfl⟩
            have hEN : ends l = 10 + N := by rw [hN]; rfl
            by_cases hbig : 65536 < N
            · have hf : flt l = 31 := by unfold flt; rw [if_neg (by omega), if_pos (by omega)]
              have hg' : got l = false := by unfold got; exact decide_eq_false fun h => by omega
              have HNO := Lib.hid (hf ▸ Nexted.no hg' hh (Below.refl _ _))
              rw [← hN] at W1 hNl
              clear hh hf hg' hlen hx hy hEN hN
              go_enter Tryd.func22, Tryd.ntmps22
              go_wp2_with fail
              refine W1.out.mono ?_
              rintro e w1 ⟨rfl, rfl⟩
              go_wp2_with fail
              go_ret3
              exact HNO.out
            · by_cases hE : n < 10 + N
              · have hf : flt l = 0 := by unfold flt; rw [if_neg (by omega), if_neg (by omega), if_neg (by rw [← hN]; omega)]
                have hg' : got l = false := by unfold got; exact decide_eq_false fun h => by have := got_len h.2; omega
                have HNO := Lib.hid (hf ▸ Nexted.no hg' hh (Below.refl _ _))
                rw [← hN] at W1 hNl
                clear hh hf hg' hlen hx hy hEN hN
                go_enter Tryd.func22, Tryd.ntmps22
                go_wp2_with fail
                refine W1.out.mono ?_
                rintro e w1 ⟨rfl, rfl⟩
                go_wp2_with fail
                go_ret3
                exact HNO.out
              · have U1 := (runwrap_any _ (N + 10) cap (l.take (10 + N)) (by simp; omega) (by omega) (by omega) w (hh.own.rd.take _))
                have hu := unw_whole hx hy (by rw [← hN]; omega) (by omega)
                rw [hEN] at hu
                by_cases hS : num (l.drop 6) = fsum (l.take (10 + N))
                · have hf : flt l = 0 := by unfold flt; rw [if_neg (by omega), if_neg (by omega), ← hN, if_neg (by simp [hS])]
                  have hst : nst l = 4 := by unfold nst; rw [if_neg (by omega), if_neg (by omega), if_neg (by omega), if_neg (by omega)]
                  have hgt : got l = true := by unfold got; exact decide_eq_true ⟨hf, hst⟩
                  have HB := Lib.hid (show body l = (l.take (10 + N)).drop 10 by unfold body; rw [if_pos hgt, hEN])
                  have HRS := Lib.hid (show rest l = l.drop (10 + N) by unfold rest; rw [if_pos hgt, hEN])
                  rw [if_neg (by simp [hS])] at hu
                  have hbl : ((l.take (10 + N)).drop 10).length = N := by simp; omega
                  have U2 : Calls Tryd.prog 13 #[.slice (some ⟨g, o, none⟩) (N + 10) cap] w fun e w' => ∃ ab cb, e = .returned (.tuple #[.slice ab N cb, .int .i64 0]) ∧ Own w' w.heap.size ab N cb ((l.take (10 + N)).drop 10) ∧ Below w.heap.size w w' := by
                    refine U1.mono ?_
                    rintro e w' ⟨ab, cb, rfl, ob, b⟩
                    rw [hu] at ob ⊢
                    change Own _ _ _ ((l.take (10 + N)).drop 10).length _ _ at ob
                    rw [hbl] at ob
                    exact ⟨ab, cb, by show Ending.returned (.tuple #[.slice ab ((l.take (10 + N)).drop 10).length cb, .int .i64 0]) = _; rw [hbl], ob, b⟩
                  have U3 := Lib.hid U2; have HBL := Lib.hid hbl
                  have HG := Lib.hid hgt; have HF := Lib.hid hf
                  have HH := Lib.hid hh; have HLEN := Lib.hid hlen
                  have hcut := Lib.hid (fun w1 => run_cut2 w1 (some ⟨g, o, none⟩) n cap (10 + N) (by omega))
                  rw [show (((10 + N : Nat)) : Int) = (N : Int) + 10 by omega] at hcut
                  rw [← hN] at W1 hNl
                  clear hh hf hst hgt hlen hx hy hEN hN hu hS U1 U2 hbl
                  go_enter Tryd.func22, Tryd.ntmps22
                  go_wp2_with fail
                  refine W1.out.mono ?_
                  rintro e w1 ⟨rfl, rfl⟩
                  go_wp2_with fail
                  refine U3.out.mono ?_
                  rintro e w2 ⟨ab, cb, rfl, ob, b2⟩
                  have hh2 := HH.out.below b2
                  have hhA := hh2.below (below_alloc (Below.refl _ w2) (.cells #[] 5))
                  have hcut2 := hcut.out (w2.alloc (.cells #[] 5))
                  have o0 := Own.none' w2 w2.heap.size (Nat.le_refl _)
                  have hrd := hhA.own.rd.sh cap (10 + N) (by rw [HLEN.out]; exact hle)
                  have hrl : (l.drop (10 + N)).length = n - (10 + N) := by rw [List.length_drop, HLEN.out]
                  have O0 := Lib.hid o0; have HRD := Lib.hid hrd; have HRL := Lib.hid hrl; have HA := Lib.hid hhA
                  clear o0 hrd hrl hhA hh2 hc hc0 hc1
                  go_wp2_with (first
                    | (refine wpList_value rfl _ (exec_slice 22 (.tmp 61) (some (.tmp 62)) none rfl rfl rfl rfl hcut2) ?_)
                    | (at_builtin; refine wpList_app rfl (.tmp 60) (.tmp 63) rfl rfl O0.out rfl HRD.out HRL.out (by simp) (by omega) ?_; intro a3 c3 w3 o3 k3 n3; simp only [Nat.zero_add, List.nil_append] at o3; have bk := O0.out.step (below_alloc (Below.refl _ w2) _) (by simp) k3; have hc3 := (bk.cell (p := ⟨R, 0, none⟩) (Nat.lt_of_lt_of_le HH.out.lt b2.size)).trans (HH.out.below b2).cell; have hf3 := (bk.frozen (p := ⟨R, 0, none⟩) (Nat.lt_of_lt_of_le HH.out.lt b2.size)).trans (HH.out.below b2).free))
                  go_ret3
                  have hh3 : Held w3 B R (some ⟨g, o, none⟩) n cap l := (HH.out.below b2).below bk
                  have hnw : ∀ q ∈ blk a3, w2.heap.size ≤ q := fun q hq => by
                    rcases n3 q hq with h | h
                    · simp [blk] at h; omega
                    · simp at h; omega
                  have ha : R ∉ blk a3 := fun hm => by have := hnw R hm; have := HH.out.lt; have := b2.size; omega
                  have k4 := Keep.setCell w3 ⟨R, 0, none⟩ (.slice a3 (n - (10 + N)) c3)
                  have B3 := below_next b2 bk
                  unfold Nexted
                  rw [HB.out, HRS.out, HG.out, HF.out, HBL.out, HRL.out]
                  refine ⟨ab, cb, a3, c3, rfl, ?_, hh3.put (o3.base (Nat.le_trans HH.out.base (Nat.le_trans (Nat.le_of_lt HH.out.lt) b2.size))) ha, (Keep.of_below B3 _).trans k4, fun q hq => .inr (Nat.le_trans b2.size (hnw q hq)), fun q hq hm => by have h1 := (ob.lt_size q hq).2; have h2 := hnw q hm; omega⟩
                  exact (ob.below bk).keep k4 (fun q hq hm => by
                    have h1 := (ob.lt_size q hq).1
                    have h2 := HH.out.lt
                    simp at hm
                    omega)
                · have hf : flt l = 34 := by unfold flt; rw [if_neg (by omega), if_neg (by omega), ← hN, if_pos ⟨by omega, by omega, hS⟩]
                  have hg' : got l = false := by unfold got; exact decide_eq_false fun h => by omega
                  rw [if_pos hS] at hu
                  have HNO := Lib.hid (fun w1 (b : Below w.heap.size w w1) => hf ▸ Nexted.no hg' hh b)
                  have U2 : Calls Tryd.prog 13 #[.slice (some ⟨g, o, none⟩) (N + 10) cap] w fun e w' => ∃ ab cb, e = .returned (.tuple #[.slice ab 0 cb, .int .i64 34]) ∧ Below w.heap.size w w' := by
                    refine U1.mono ?_
                    rintro e w' ⟨ab, cb, rfl, ob, b⟩
                    rw [hu]
                    exact ⟨ab, cb, rfl, b⟩
                  have U3 := Lib.hid U2
                  rw [← hN] at W1 hNl
                  clear hh hf hg' hlen hx hy hEN hN hu hS U1 U2
                  go_enter Tryd.func22, Tryd.ntmps22
                  go_wp2_with fail
                  refine W1.out.mono ?_
                  rintro e w1 ⟨rfl, rfl⟩
                  go_wp2_with fail
                  refine U3.out.mono ?_
                  rintro e w2 ⟨ab, cb, rfl, b2⟩
                  go_wp2_with fail
                  go_ret3
                  exact HNO.out w2 b2
        · have hf : flt l = 32 := by unfold flt; rw [if_pos (by omega)]
          have hg' : got l = false := by unfold got; exact decide_eq_false fun h => by omega
          have HNO := Lib.hid (hf ▸ Nexted.no hg' hh (Below.refl _ _))
          have hb1 := hh.own.rd.byte 1
          clear hh hf hg' hlen hx
          generalize bt l 1 = x1 at *
          have hne : ((x1 : Int) != 78) = true := by simp; omega
          go_enter Tryd.func22, Tryd.ntmps22
          go_wp2_with fail
          go_ret3
          exact HNO.out
    · have hf : flt l = 32 := by unfold flt; rw [if_pos (by omega)]
      have hg' : got l = false := by unfold got; exact decide_eq_false fun h => by omega
      have HNO := Lib.hid (hf ▸ Nexted.no hg' hh (Below.refl _ _))
      have hb1 := hh.own.rd.byte 0
      clear hh hf hg' hlen
      generalize bt l 0 = x0 at *
      have hne : ((x0 : Int) != 84) = true := by simp; omega
      go_enter Tryd.func22, Tryd.ntmps22
      go_wp2_with fail
      go_ret3
      exact HNO.out
end Go.Proofs.YtbbafjgbcmlacaaDoor
