/- replace. -/
import Derived.Test.YtgfalpiifgoonaaLr
namespace Go.Proofs.Ytgfalpiifgoonaa
open Go.RowKit Go.Sort
set_option linter.unusedVariables false
set_option linter.unusedSectionVars false
set_option linter.unusedSimpArgs false
set_option maxRecDepth 100000

abbrev layL (w : World) (ln k : Nat) (a : Ac) : World := (((w.setCell ⟨ln, 1 + k * 4, none⟩ (.bool a.is)).setCell ⟨ln, 1 + k * 4 + 1, none⟩ (.int .u32 a.b.round)).setCell ⟨ln, 1 + k * 4 + 2, none⟩ (.int .u8 a.b.node)).setCell ⟨ln, 1 + k * 4 + 3, none⟩ (.string a.v)
section
variable {w w' : World} {B ln gm n c : Nat} {last : List Ac} {ch old now : Ac}
theorem layL_keep (w : World) (ln k : Nat) (a : Ac) : Keep [ln] w (layL w ln k a) :=
  (((Keep.setCell w ⟨ln, 1 + k * 4, none⟩ _).trans (Keep.setCell _ ⟨ln, 1 + k * 4 + 1, none⟩ _)).trans (Keep.setCell _ ⟨ln, 1 + k * 4 + 2, none⟩ _)).trans (Keep.setCell _ ⟨ln, 1 + k * 4 + 3, none⟩ _)
theorem lrow_set (hl : last.length = 9) (k : Nat) (hk : k < 9) : ((((lrow n last gm ch).set (1 + k * 4) (.bool now.is)).set (1 + k * 4 + 1) (.int .u32 now.b.round)).set (1 + k * 4 + 2) (.int .u8 now.b.node)).set (1 + k * 4 + 3) (.string now.v) = lrow n (last.set k now) gm ch := by
  have hf : (fl cA last).length = 36 := by rw [fl_len cA_len, hl]
  have e : ∀ (xs : List Value) (j : Nat) (v : Value) (r : List Value), j < xs.length → (xs ++ r).set j v = xs.set j v ++ r := fun xs j v r hj => by rw [List.set_append_left _ _ hj]
  have hs : (((((fl cA last).set (k * 4) (.bool now.is)).set (k * 4 + 1) (.int .u32 now.b.round)).set (k * 4 + 2) (.int .u8 now.b.node)).set (k * 4 + 3) (.string now.v)) = fl cA (last.set k now) := by
    refine fl_set (c := cA) (z := 4) cA_len last k now _ (by simp) (by omega) (fun i hi => ?_) (fun q hq => ?_)
    · have : i = 0 ∨ i = 1 ∨ i = 2 ∨ i = 3 := by omega
      rcases this with rfl | rfl | rfl | rfl
      · rw [List.getElem?_set_ne (by omega), List.getElem?_set_ne (by omega), List.getElem?_set_ne (by omega), Nat.add_zero, List.getElem?_set_self (by omega)]; rfl
      · rw [List.getElem?_set_ne (by omega), List.getElem?_set_ne (by omega), List.getElem?_set_self (by rw [List.length_set]; omega)]; rfl
      · rw [List.getElem?_set_ne (by omega), List.getElem?_set_self (by rw [List.length_set, List.length_set]; omega)]; rfl
      · rw [List.getElem?_set_self (by rw [List.length_set, List.length_set, List.length_set]; omega)]; rfl
    · rw [List.getElem?_set_ne (by omega), List.getElem?_set_ne (by omega), List.getElem?_set_ne (by omega), List.getElem?_set_ne (by omega)]
  unfold lrow
  rw [← hs, show 1 + k * 4 + 3 = (k * 4 + 3) + 1 by omega, show 1 + k * 4 + 2 = (k * 4 + 2) + 1 by omega, show 1 + k * 4 + 1 = (k * 4 + 1) + 1 by omega, show 1 + k * 4 = k * 4 + 1 by omega]
  generalize fl cA last = xs at hf
  simp only [List.set_cons_succ]
  rw [e _ _ _ _ (by omega), e _ _ _ _ (by rw [List.length_set]; omega), e _ _ _ _ (by rw [List.length_set, List.length_set]; omega), e _ _ _ _ (by rw [List.length_set, List.length_set, List.length_set]; omega)]
theorem layL_row (h : RowL w ln n last gm ch) (k : Nat) (hk : k < 9) : RowL (layL w ln k now) ln n (last.set k now) gm ch := by
  refine ⟨?_, by rw [List.length_set]; exact h.2⟩
  have h1 : (layL w ln k now).heap[ln]? = some _ := heap_setCell_same _ ln (1 + k * 4 + 3) _ _ _ (heap_setCell_same _ ln (1 + k * 4 + 2) _ _ _ (heap_setCell_same _ ln (1 + k * 4 + 1) _ _ _ (heap_setCell_same w ln (1 + k * 4) _ _ _ h.1)))
  rw [h1]
  simp only [List.setIfInBounds_toArray]
  rw [lrow_set h.2 k hk]
set_option maxHeartbeats 6400000 in
theorem replace_any (k m : Nat) (hk : k < 9) (hold : last[k]? = some old) (hn : now.is = true) (ho1 : old.Ok) (ho2 : now.Ok) (hm : m < 100000) (hne : ln ≠ gm) (hc31 : ∀ x, occ last x ≤ 9) (w : World) (h : RowL w ln n last gm ch) (hmap : CntA w gm m (cf last)) :
    Calls Try.prog 29 #[.pointer (some ⟨ln, 0, none⟩), .int .i64 (k : Int), old.ag, now.ag] w fun e w' => e = .returned (.tuple #[]) ∧ RowL w' ln n (last.set k now) gm ch ∧ (∃ m', m' ≤ m + 1 ∧ CntA w' gm m' (cf (last.set k now))) ∧ Keep [ln, gm] w w' := by
  obtain ⟨W, hW⟩ : ∃ W, W = (w.alloc old.obj).alloc now.obj := ⟨_, rfl⟩
  have bW : Below w.heap.size w W := by rw [hW]; exact below_alloc (below_alloc (Below.refl _ _) _) _
  have ko : RowA W w.heap.size old := by
    have := (RowA.new w old).below (below_alloc (Below.refl _ _) now.obj)
    rw [← hW] at this; exact this
  have kn : RowA W (w.heap.size + 1) now := by
    have := RowA.new (w.alloc old.obj) now
    rw [← hW, show (w.alloc old.obj).heap.size = w.heap.size + 1 by simp] at this; exact this
  have HL := Lib.hid (show ln < w.heap.size ∧ gm < w.heap.size from ⟨RowL.lt h, hmap.lt⟩)
  have r0 := RowL.below h bW
  have m0 := hmap.keep (Keep.of_below bW []) (by simp)
  have hcv : (cf last old).getD 0 ≤ 9 ∧ 0 ≤ (cf last old).getD 0 := by
    have := hc31 old
    unfold cf
    split <;> simp <;> omega
  have HCV := Lib.hid hcv
  have HGB := Lib.hid (show ∀ g1 : Ac → Option Int, (g1 = up (cf last) old (some ((cf last old).getD 0 - 1)) ∧ 1 < (cf last old).getD 0 ∨ g1 = up (cf last) old none) → 0 ≤ (g1 now).getD 0 ∧ (g1 now).getD 0 ≤ 9 from fun g1 hg => by
    have hcn : 0 ≤ (cf last now).getD 0 ∧ (cf last now).getD 0 ≤ 9 := by
      have := hc31 now
      unfold cf
      split <;> simp <;> omega
    by_cases e : now = old
    · rcases hg with ⟨rfl, h2⟩ | rfl
      · rw [e, up_same]; simp only [Option.getD_some]; omega
      · rw [e, up_same]; simp
    · rcases hg with ⟨rfl, h2⟩ | rfl
      · rw [up_other _ _ e]; exact hcn
      · rw [up_other _ _ e]; exact hcn)
  have HSO := Lib.hid (show 1 < (cf last old).getD 0 → (cf last old).isSome = true from fun h => by cases hq : cf last old with | none => rw [hq] at h; simp at h | some c => rfl)
  have HT := Lib.hid (fun x (g1 : Ac → Option Int) => cf_turn last k old now x hold hn g1)
  have x0 := cell_regrown (RowL.end r0).1
  obtain ⟨o0, o1, o2, o3, _⟩ := RowA.all ko
  have x1 := cell_regrown o0; have x2 := cell_regrown o1; have x3 := cell_regrown o2; have x4 := cell_regrown o3
  have hlk := fun d os => (m0.keep (Keep.of_below (below_regrown W d os) []) (by simp)).look1 kAc old ho1
  have KO := Lib.hid ko; have KN := Lib.hid kn; have R0 := Lib.hid r0; have M0 := Lib.hid m0
  have BW := Lib.hid bW
  simp only [Ac.ag, Ac.obj] at hlk hW
  clear h hmap bW ko kn r0 m0 o0 o1 o2 o3 hold hc31 hn
  go_enter Try.func29, Try.ntmps29
  go_upto_region 1 with (fail)
  rw [← hW]
  clear hW
  generalize hbi : w.heap.size = bi at *
  generalize hcc : (cf last old).getD 0 = cc at *
  by_cases hgt : 1 < cc
  · have hd : decide (1 < cc) = true := by simp; omega
    refine wp_region_quiet_below (by kernel_rfl) (by kernel_rfl) ?_
    repeat (go_big_quiet_step (fail))
    refine wpQuiet_nil ?_
    intro _ hw'
    obtain ⟨⟨dq, osq⟩, hw''⟩ := hw'
    subst hw''
    have lk := below_regrown W dq osq
    have R1 := Lib.hid (RowL.below R0.out lk); have M1 := Lib.hid (M0.out.keep (Keep.of_below lk []) (by simp)); have KO1 := Lib.hid (RowA.below KO.out lk); have KN1 := Lib.hid (RowA.below KN.out lk)
    have BW1 := Lib.hid (BW.out.trans (lk.mono (by have := RowA.lt KO.out; omega)))
    clear x0 x1 x2 x3 x4 hlk lk R0 M0 KO KN BW
    generalize grow (redrawn W dq) osq = W1 at *
    go_upto_region 2 with (fail)
    obtain ⟨st, w2, he, k2, hlk2, hst⟩ := (M1.out.keep (Keep.of_below (Below.refl W1.heap.size W1).drew []) (by simp)).entry kAc old ho1 (by omega)
    obtain ⟨mg, gg, mw2, hgg⟩ := hlk2
    obtain ⟨w3, hs3, m3, k3⟩ := hst (cc - 1)
    have l1 := (M1.out.keep (Keep.of_below (Below.refl W1.heap.size W1).drew []) (by simp)).look1 kAc old ho1
    have l2 := mw2.look1 kAc old ho1
    rw [hgg] at l2
    rw [hcc] at l1 l2 he
    have bd : IntKind.i64.wrap (cc - 1) = cc - 1 := IntWalk.i64_in _ (by have := HCV.out; omega)
    have c37 := (RowL.end R1.out).1
    obtain ⟨o0, o1, o2, o3, _⟩ := RowA.all KO1.out
    have kk : Keep [gm] W1 w3 := ((Keep.of_below (Below.refl W1.heap.size W1).drew [gm]).trans k2).trans k3
    have R3 := Lib.hid (RowL.keep R1.out kk (by simpa using hne))
    have KN3 : RowA w3 (bi + 1) now := row_keep KN1.out kk (by have := HL.out; simp; omega)
    have BW3 := Lib.hid ((show Keep [ln, gm] w W1 from Keep.of_below (by rw [hbi]; exact BW1.out) _).trans (kk.mono (by simp)))
    have M3 := Lib.hid m3
    have KN4 := Lib.hid KN3
    have HT1 := Lib.hid (fun x => HT.out x (up (cf last) old (some (cc - 1))) (by rw [if_pos hgt]))
    simp only [Ac.ag, iag, goInt] at he hs3 l1 l2
    have hcv := HCV.out
    clear k2 k3 mw2 hgg m3 kk R1 M1 KO1 KN1 BW1 KN3 hst HT
    go_region
    clear he hs3 l1 l2 bd c37 o0 o1 o2 o3
    have HG1 := Lib.hid (show 0 ≤ (up (cf last) old (some (cc - 1)) now).getD 0 ∧ (up (cf last) old (some (cc - 1)) now).getD 0 ≤ 9 from HGB.out _ (.inl ⟨rfl, hgt⟩))
    have HHM := Lib.hid (show (if (cf last old).isSome then m else m + 1) ≤ m from by rw [HSO.out hgt]; simp)
    generalize hgx : up (cf last) old (some (cc - 1)) = g1 at *
    generalize hmx : (if (cf last old).isSome then m else m + 1) = m1 at *
    have M4 := M3
    have hm1 := HHM.out
    clear M3 hgx hmx
    go_upto_region 4 with (fail)
    obtain ⟨q0, q1, q2, q3, _⟩ := RowA.all KN4.out
    have x1 := cell_regrown q0; have x2 := cell_regrown q1; have x3 := cell_regrown q2; have x4 := cell_regrown q3
    clear q0 q1 q2 q3
    have hk9 : (k : Int) < 9 := by omega
    have hk0 : (0 : Int) ≤ (k : Int) := by omega
    refine region_tail 6 (by kernel_rfl) (by kernel_rfl) ?_
    simp only [List.take_succ_cons, List.take_zero, List.drop_succ_cons, List.drop_zero]
    repeat (go_big_quiet_step (fail))
    refine wpQuiet_nil ?_
    intro _ hw'
    obtain ⟨⟨dq4, osq4⟩, hw''⟩ := hw'
    subst hw''
    have lk := below_regrown w3 dq4 osq4
    have R5 := RowL.below R3.out lk
    have KN5 := RowA.below KN4.out lk
    have M5 := M4.out.keep (Keep.of_below lk []) (by simp)
    have BW5 := Lib.hid (BW3.out.trans (Keep.of_below lk _))
    clear x1 x2 x3 x4 lk R3 M4 KN4 BW3
    generalize grow (redrawn w3 dq4) osq4 = w4 at *
    obtain ⟨old', hold'⟩ : ∃ y, last[k]? = some y := ⟨last[k]'(by rw [R5.2]; exact hk), List.getElem?_eq_getElem _⟩
    obtain ⟨p0, p1, p2, p3⟩ := RowL.at_ R5 k hk old' hold'
    have f0 := RowL.fr R5 (1 + k * 4)
    have f1 := RowL.fr R5 (1 + k * 4 + 1)
    have f2 := RowL.fr R5 (1 + k * 4 + 2)
    have f3 := RowL.fr R5 (1 + k * 4 + 3)
    go_wp2_with fail
    have R6 := layL_row (now := now) R5 k hk
    have kk := layL_keep w4 ln k now
    have M6 := M5.keep kk (by simpa using Ne.symm hne)
    have KN6 : RowA _ (bi + 1) now := row_keep KN5 kk (by have := HL.out; simp; omega)
    have BW6 := Lib.hid (BW5.out.trans (kk.mono (T := [ln, gm]) (by simp)))
    simp only [layL] at R6 M6 KN6 BW6
    clear kk R5 M5 KN5 BW5 p0 p1 p2 p3 f0 f1 f2 f3
    generalize (((w4.setCell ⟨ln, 1 + k * 4, none⟩ (.bool now.is)).setCell ⟨ln, 1 + k * 4 + 1, none⟩ (.int .u32 now.b.round)).setCell ⟨ln, 1 + k * 4 + 2, none⟩ (.int .u8 now.b.node)).setCell ⟨ln, 1 + k * 4 + 3, none⟩ (.string now.v) = W6 at *
    obtain ⟨st, w7, he, k7, hlk7, hst⟩ := (M6.keep (Keep.of_below (Below.refl W6.heap.size W6).drew []) (by simp)).entry kAc now ho2 (by omega)
    obtain ⟨mg, gg, mw7, hgg⟩ := hlk7
    obtain ⟨w8, hs8, m8, k8⟩ := hst ((g1 now).getD 0 + 1)
    have l1 := (M6.keep (Keep.of_below (Below.refl W6.heap.size W6).drew []) (by simp)).look1 kAc now ho2
    have l2 := mw7.look1 kAc now ho2
    rw [hgg] at l2
    have hgb : 0 ≤ (g1 now).getD 0 ∧ (g1 now).getD 0 ≤ 9 := HG1.out
    have kk : Keep [gm] W6 w8 := ((Keep.of_below (Below.refl W6.heap.size W6).drew [gm]).trans k7).trans k8
    have R8 := Lib.hid (RowL.keep R6 kk (by simpa using hne))
    have BW8 := Lib.hid (BW6.out.trans (kk.mono (by simp)))
    have M8 : ∃ m', m' ≤ m + 1 ∧ CntA w8 gm m' (cf (last.set k now)) := by
      have := m8.ext fun x _ => HT1.out x
      refine ⟨_, ?_, this⟩
      split <;> omega
    have MM := Lib.hid M8
    have c37 := (RowL.end R6).1
    obtain ⟨o0, o1, o2, o3, _⟩ := RowA.all KN6
    simp only [Ac.ag, iag, goInt] at he hs8 l1 l2
    generalize (g1 now).getD 0 = cd at *
    have bd : IntKind.i64.wrap (cd + 1) = cd + 1 := IntWalk.i64_in _ (by omega)
    clear k7 k8 mw7 hgg m8 kk M6 KN6 hst M8 BW6 R6
    go_region
    clear he hs8 l1 l2 bd c37 o0 o1 o2 o3
    go_wp2_with fail
    go_end0
    exact ⟨rfl, R8.out, MM.out, BW8.out⟩
  · have hd : decide (1 < cc) = false := by simp; omega
    refine wp_region_quiet_below (by kernel_rfl) (by kernel_rfl) ?_
    repeat (go_big_quiet_step (fail))
    refine wpQuiet_nil ?_
    intro _ hw'
    obtain ⟨⟨dq, osq⟩, hw''⟩ := hw'
    subst hw''
    have lk := below_regrown W dq osq
    have R1 := Lib.hid (RowL.below R0.out lk); have M1 := Lib.hid (M0.out.keep (Keep.of_below lk []) (by simp)); have KO1 := Lib.hid (RowA.below KO.out lk); have KN1 := Lib.hid (RowA.below KN.out lk)
    have BW1 := Lib.hid (BW.out.trans (lk.mono (by have := RowA.lt KO.out; omega)))
    clear x0 x1 x2 x3 x4 hlk lk R0 M0 KO KN BW
    generalize grow (redrawn W dq) osq = W1 at *
    go_upto_region 3 with (fail)
    have c37 := (RowL.end R1.out).1
    obtain ⟨o0, o1, o2, o3, _⟩ := RowA.all KO1.out
    have x0 := cell_regrown c37; have x1 := cell_regrown o0; have x2 := cell_regrown o1; have x3 := cell_regrown o2; have x4 := cell_regrown o3
    clear c37 o0 o1 o2 o3
    refine region_tail 5 (by kernel_rfl) (by kernel_rfl) ?_
    simp only [List.take_succ_cons, List.take_zero, List.drop_succ_cons, List.drop_zero]
    repeat (go_big_quiet_step (fail))
    refine wpQuiet_nil ?_
    intro _ hw'
    obtain ⟨⟨dq, osq⟩, hw''⟩ := hw'
    subst hw''
    have lk := below_regrown W1 dq osq
    obtain ⟨w3, hr3, m3, k3⟩ := (M1.out.keep (Keep.of_below lk []) (by simp)).del kAc old ho1 0
    have kk : Keep [gm] W1 w3 := (Keep.of_below lk [gm]).trans k3
    have R3 := Lib.hid (RowL.keep R1.out kk (by simpa using hne))
    have KN4 := Lib.hid (show RowA w3 (bi + 1) now from row_keep KN1.out kk (by have := HL.out; simp; omega))
    have BW3 := Lib.hid ((show Keep [ln, gm] w W1 from Keep.of_below (by rw [hbi]; exact BW1.out) _).trans (kk.mono (by simp)))
    have M3 := Lib.hid m3
    have HR3 := Lib.hid hr3
    have HT1 := Lib.hid (fun x => HT.out x (up (cf last) old none) (by rw [if_neg hgt]))
    simp only [Ac.ag] at HR3
    clear x0 x1 x2 x3 x4 lk m3 k3 kk hr3 R1 M1 KO1 KN1 BW1 HT
    generalize grow (redrawn W1 dq) osq = W2 at *
    go_upto_region 4 with (refine wpList_delq rfl (.tmp 27) (.tmp 28) _ _ rfl rfl rfl HR3.out ?_)
    clear HR3
    simp only [Act.put]
    have HG1 := Lib.hid (show 0 ≤ (up (cf last) old none now).getD 0 ∧ (up (cf last) old none now).getD 0 ≤ 9 from HGB.out _ (.inr rfl))
    have HHM := Lib.hid (show (if (cf last old).isSome then m - 1 else m) ≤ m from by split <;> omega)
    generalize hgx : up (cf last) old none = g1 at *
    generalize hmx : (if (cf last old).isSome then m - 1 else m) = m1 at *
    have M4 := M3
    have hm1 := HHM.out
    clear M3 hgx hmx
    go_upto_region 4 with (fail)
    obtain ⟨q0, q1, q2, q3, _⟩ := RowA.all KN4.out
    have x1 := cell_regrown q0; have x2 := cell_regrown q1; have x3 := cell_regrown q2; have x4 := cell_regrown q3
    clear q0 q1 q2 q3
    have hk9 : (k : Int) < 9 := by omega
    have hk0 : (0 : Int) ≤ (k : Int) := by omega
    refine region_tail 6 (by kernel_rfl) (by kernel_rfl) ?_
    simp only [List.take_succ_cons, List.take_zero, List.drop_succ_cons, List.drop_zero]
    repeat (go_big_quiet_step (fail))
    refine wpQuiet_nil ?_
    intro _ hw'
    obtain ⟨⟨dq4, osq4⟩, hw''⟩ := hw'
    subst hw''
    have lk := below_regrown w3 dq4 osq4
    have R5 := RowL.below R3.out lk
    have KN5 := RowA.below KN4.out lk
    have M5 := M4.out.keep (Keep.of_below lk []) (by simp)
    have BW5 := Lib.hid (BW3.out.trans (Keep.of_below lk _))
    clear x1 x2 x3 x4 lk R3 M4 KN4 BW3
    generalize grow (redrawn w3 dq4) osq4 = w4 at *
    obtain ⟨old', hold'⟩ : ∃ y, last[k]? = some y := ⟨last[k]'(by rw [R5.2]; exact hk), List.getElem?_eq_getElem _⟩
    obtain ⟨p0, p1, p2, p3⟩ := RowL.at_ R5 k hk old' hold'
    have f0 := RowL.fr R5 (1 + k * 4)
    have f1 := RowL.fr R5 (1 + k * 4 + 1)
    have f2 := RowL.fr R5 (1 + k * 4 + 2)
    have f3 := RowL.fr R5 (1 + k * 4 + 3)
    go_wp2_with fail
    have R6 := layL_row (now := now) R5 k hk
    have kk := layL_keep w4 ln k now
    have M6 := M5.keep kk (by simpa using Ne.symm hne)
    have KN6 : RowA _ (bi + 1) now := row_keep KN5 kk (by have := HL.out; simp; omega)
    have BW6 := Lib.hid (BW5.out.trans (kk.mono (T := [ln, gm]) (by simp)))
    simp only [layL] at R6 M6 KN6 BW6
    clear kk R5 M5 KN5 BW5 p0 p1 p2 p3 f0 f1 f2 f3
    generalize (((w4.setCell ⟨ln, 1 + k * 4, none⟩ (.bool now.is)).setCell ⟨ln, 1 + k * 4 + 1, none⟩ (.int .u32 now.b.round)).setCell ⟨ln, 1 + k * 4 + 2, none⟩ (.int .u8 now.b.node)).setCell ⟨ln, 1 + k * 4 + 3, none⟩ (.string now.v) = W6 at *
    obtain ⟨st, w7, he, k7, hlk7, hst⟩ := (M6.keep (Keep.of_below (Below.refl W6.heap.size W6).drew []) (by simp)).entry kAc now ho2 (by omega)
    obtain ⟨mg, gg, mw7, hgg⟩ := hlk7
    obtain ⟨w8, hs8, m8, k8⟩ := hst ((g1 now).getD 0 + 1)
    have l1 := (M6.keep (Keep.of_below (Below.refl W6.heap.size W6).drew []) (by simp)).look1 kAc now ho2
    have l2 := mw7.look1 kAc now ho2
    rw [hgg] at l2
    have hgb : 0 ≤ (g1 now).getD 0 ∧ (g1 now).getD 0 ≤ 9 := HG1.out
    have kk : Keep [gm] W6 w8 := ((Keep.of_below (Below.refl W6.heap.size W6).drew [gm]).trans k7).trans k8
    have R8 := Lib.hid (RowL.keep R6 kk (by simpa using hne))
    have BW8 := Lib.hid (BW6.out.trans (kk.mono (by simp)))
    have M8 : ∃ m', m' ≤ m + 1 ∧ CntA w8 gm m' (cf (last.set k now)) := by
      have := m8.ext fun x _ => HT1.out x
      refine ⟨_, ?_, this⟩
      split <;> omega
    have MM := Lib.hid M8
    have c37 := (RowL.end R6).1
    obtain ⟨o0, o1, o2, o3, _⟩ := RowA.all KN6
    simp only [Ac.ag, iag, goInt] at he hs8 l1 l2
    generalize (g1 now).getD 0 = cd at *
    have bd : IntKind.i64.wrap (cd + 1) = cd + 1 := IntWalk.i64_in _ (by omega)
    clear k7 k8 mw7 hgg m8 kk M6 KN6 hst M8 BW6 R6
    go_region
    clear he hs8 l1 l2 bd c37 o0 o1 o2 o3
    go_wp2_with fail
    go_end0
    exact ⟨rfl, R8.out, MM.out, BW8.out⟩
end
end Go.Proofs.Ytgfalpiifgoonaa
