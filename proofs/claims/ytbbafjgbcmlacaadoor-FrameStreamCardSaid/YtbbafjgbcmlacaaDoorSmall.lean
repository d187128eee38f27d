/- Clone, Same, own, still, sumOf. -/
import Derived.Test.YtbbafjgbcmlacaaDoorWord
namespace Go.Proofs.YtbbafjgbcmlacaaDoor
open Go.RowKit Go.Sort
set_option linter.unusedVariables false

theorem eql_nil (w : World) (ao : Option Addr) (n c : Nat) : (binOp .eql 22 (.slice ao n c) (.slice none 0 0)).run Tryd.prog w = .ok (.bool ao.isNone) w :=
  Lib.run_eql_slice_nil w _ 5 ao n c 0 0 Tryd.underlying22

set_option maxHeartbeats 2000000 in
theorem clone_any (ao : Option Addr) (n cap : Nat) (l : List Nat) (hl : l.length = n) (hn : n ≤ 140737488355328) (w : World) (hr : Rd w ao l) :
    Calls Tryd.prog 27 #[.slice ao n cap] w fun e w' => ∃ ao' cap', e = .returned (.slice ao' n cap') ∧ Own w' w.heap.size ao' n cap' l ∧ Below w.heap.size w w' := by
  have HR := Lib.hid hr; have HL := Lib.hid hl
  clear hr hl
  have hnil := eql_nil w ao n cap
  cases ao with
  | none =>
    have hl0 : l = [] := by
      cases l with
      | nil => rfl
      | cons a t => obtain ⟨g, o, e, _⟩ := HR.out.at_ 0 (by simp); cases e
    subst hl0
    go_enter Tryd.func27, Tryd.ntmps27
    go_wp2_with fail
    go_ret
    obtain rfl : n = 0 := HL.out.symm
    exact ⟨none, 0, rfl, Own.nil _ _, Below.refl _ _⟩
  | some a =>
    go_enter Tryd.func27, Tryd.ntmps27
    go_wp2_with (at_builtin; refine wpList_app rfl (.tmp 5) (.tmp 6) rfl rfl (Own.none' w w.heap.size (Nat.le_refl _)) rfl (HR.out.below (below_alloc (Below.refl _ _) _)) HL.out (by simp) (by omega) ?_; intro ao2 cap2 w2 hown2 hk2 hn2)
    have hb2 := (Own.none' w w.heap.size (Nat.le_refl _)).step (below_alloc (Below.refl _ _) _) (by simp) hk2
    go_ret
    rw [Nat.zero_add, List.nil_append] at hown2
    exact ⟨ao2, cap2, rfl, hown2, hb2⟩

set_option maxHeartbeats 2000000 in
theorem same_any (ao bo : Option Addr) (n m c d : Nat) (l l' : List Nat) (hl : l.length = n) (hl' : l'.length = m) (hn : n ≤ 9223372036854775807) (w : World) (h1 : Rd w ao l) (h2 : Rd w bo l') :
    Calls Tryd.prog 14 #[.slice ao n c, .slice bo m d] w fun e w' => e = .returned (.bool (l == l')) ∧ Below w.heap.size w w' := by
  have H1 := Lib.hid h1; have H2 := Lib.hid h2
  have HL := Lib.hid hl; have HM := Lib.hid hl'
  clear h1 h2 hl hl'
  by_cases hnm : n = m
  · subst hnm
    go_enter Tryd.func14, Tryd.ntmps14
    go_wp2_with fail
    go_loopw [5] (fun i wr => ∃ k : Nat, k ≤ n ∧ i = .int .i64 k ∧ Hid (∀ j, j < k → bt l j = bt l' j) ∧ Below w.heap.size w wr) (fun i _ => n - (intOf i).toNat)
    case atStart => exact ⟨0, Nat.zero_le _, rfl, fun j hj => by omega, Below.refl _ _⟩
    case round =>
      obtain ⟨k, hk, rfl, hall, hb⟩ := hrel
      by_cases hlt : k < n
      · obtain ⟨g1, o1, rfl, p1, q1⟩ := (H1.out.below hb).at_ k (by rw [HL.out]; exact hlt)
        obtain ⟨g2, o2, rfl, p2, q2⟩ := (H2.out.below hb).at_ k (by rw [HM.out]; exact hlt)
        have r1 := cell_regrown q1
        have r2 := cell_regrown q2
        have b1 := H1.out.byte k
        have b2 := H2.out.byte k
        clear p1 p2 q1 q2
        have HX := Lib.hid (show bt l k = bt l k from rfl)
        have hxs : ∃ x, x = bt l k := ⟨_, rfl⟩
        have hys : ∃ y, y = bt l' k := ⟨_, rfl⟩
        obtain ⟨x, hx⟩ := hxs
        obtain ⟨y, hy⟩ := hys
        rw [← hx] at r1 b1
        rw [← hy] at r2 b2
        have HXX := Lib.hid hx; have HYY := Lib.hid hy
        clear hx hy HX
        by_cases hxy : x = y
        · subst hxy
          go_wp2_with fail
          refine wp_region_quiet_below (by kernel_rfl) (by kernel_rfl) ?_
          repeat (go_big_quiet_step (fail))
          refine wpQuiet_nil ?_
          intro _ hw'
          obtain ⟨⟨dq, osq⟩, hw''⟩ := hw'
          subst hw''
          have lk := below_regrown wr dq osq
          go_wp2_with fail
          go_roundw
          case rel =>
            refine ⟨k + 1, by omega, by go_num, fun j hj => ?_, below_next hb lk⟩
            by_cases hjk : j = k
            · subst hjk; rw [← HXX.out, ← HYY.out]
            · exact hall.out j (by omega)
          case measure => simp [intOf]; omega
        · have hne : ((x : Int) == (y : Int)) = false := by simp; omega
          go_wp2_with fail
          refine wp_region_quiet_below (by kernel_rfl) (by kernel_rfl) ?_
          repeat (go_big_quiet_step (fail))
          refine wpQuiet_nil ?_
          intro _ hw'
          obtain ⟨⟨dq, osq⟩, hw''⟩ := hw'
          subst hw''
          have lk := below_regrown wr dq osq
          go_wp2_with fail
          go_ret
          refine ⟨ret_bool ?_, below_next hb lk⟩
          symm
          rw [beq_eq_false_iff_ne]
          intro e
          apply hxy
          rw [HXX.out, HYY.out, e]
      · obtain rfl : k = n := by omega
        go_wp2_with fail
        go_ret
        refine ⟨ret_bool ?_, hb⟩
        symm
        rw [beq_iff_eq]
        exact ext_bt (by rw [HL.out, HM.out]) (fun j hj => hall.out j (by rw [← HL.out]; exact hj))
  · have hne : ((n : Int) == (m : Int)) = false := by simp; omega
    go_enter Tryd.func14, Tryd.ntmps14
    go_wp2_with fail
    go_ret
    refine ⟨ret_bool ?_, Below.refl _ _⟩
    symm
    rw [beq_eq_false_iff_ne]
    intro e
    apply hnm
    rw [← HL.out, ← HM.out, e]

theorem sum_regrown {s : Nat} (hs : s < 4294967296) {ao : Option Addr} {n cap : Nat} {l : List Nat} (hl : l.length = n) (hn : n ≤ 9223372036854775807) {w : World} (ht : Tab w) (hr : Rd w ao l) (d : Nat) (os : Array Obj) :
    Calls Tryd.prog 16 #[.int .u32 (s : Int), .slice ao n cap] (grow (redrawn w d) os) fun e w'' => e = .returned (.int .u32 (sumOf s l : Nat)) ∧ ∃ p : Regrown, w'' = grow (redrawn w p.d) p.os :=
  Calls.regrown_of (same_below (sum_any s hs ao n cap l hl hn _ (ht.below (below_regrown w d os)) (hr.below (below_regrown w d os))))
theorem rsum_regrown {s : Nat} (hs : s < 4294967296) {ao : Option Addr} {n cap : Nat} {l : List Nat} (hl : l.length = n) (hn : n ≤ 9223372036854775807) {w : World} (hr : Rd w ao l) (d : Nat) (os : Array Obj) :
    Calls Tryd.prog 17 #[.int .u32 (s : Int), .slice ao n cap] (grow (redrawn w d) os) fun e w'' => e = .returned (.int .u32 (sumOf s l : Nat)) ∧ ∃ p : Regrown, w'' = grow (redrawn w p.d) p.os :=
  Calls.regrown_of (same_below (rsum_any s hs ao n cap l hl hn _ (hr.below (below_regrown w d os))))

/-- the sum that a frame should have -/
def fsum (l : List Nat) : Nat := sumOf (sumOf 0 ((l.drop 2).take 4)) (l.drop 10)
theorem fsum_lt (l : List Nat) : fsum l < 4294967296 := sumOf_lt _ _

set_option maxHeartbeats 2000000 in
theorem sumof_any (ao : Option Addr) (n cap : Nat) (l : List Nat) (hl : l.length = n) (h10 : 10 ≤ n) (hc : n ≤ cap) (hn : n ≤ 9223372036854775807) (w : World) (ht : Tab w) (hr : Rd w ao l) :
    Calls Tryd.prog 25 #[.slice ao n cap] w fun e w' => e = .returned (.int .u32 (fsum l : Nat)) ∧ Below w.heap.size w w' := by
  obtain ⟨g, o, rfl, _, _⟩ := hr.at_ 0 (by omega)
  have c1 := sum_regrown (cap := cap - 2) (s := 0) (by omega) (n := 4) (by simp; omega) (by omega) ht (hr.off 2 4)
  have C2 := Lib.hid (sum_regrown (cap := cap - 10) (s := sumOf 0 ((l.drop 2).take 4)) (sumOf_lt _ _) (n := n - 10) (l := l.drop 10) (by simp; omega) (by omega) ht (hr.ifr cap 10 (by omega)))
  rw [show ((0 : Nat) : Int) = 0 from rfl] at c1
  have C1 := Lib.hid c1; clear c1
  have HF := Lib.hid (show fsum l = sumOf (sumOf 0 ((l.drop 2).take 4)) (l.drop 10) from rfl)
  clear ht hr hl
  generalize sumOf 0 ((l.drop 2).take 4) = s1 at *
  generalize sumOf s1 (l.drop 10) = s2 at *
  rcases (by omega : (cap = 10 ∧ n = 10) ∨ 10 < cap) with ⟨rfl, rfl⟩ | hcap
  rw [if_pos rfl] at C2
  simp only [Nat.reduceSub] at C1 C2
  clear h10 hc hn
  rotate_left
  rw [if_neg (by omega)] at C2
  all_goals
    go_enter Tryd.func25, Tryd.ntmps25
    go_wp2_with fail
    refine wp_region_quiet_below (by kernel_rfl) (by kernel_rfl) ?_
    go_big_quiet_step (fail)
    go_big_quiet_step (fail)
    go_big_quiet_step (exact C1.out _ _)
    go_big_quiet_step (fail)
    go_big_quiet_step (fail)
    go_big_quiet_step (exact C2.out _ _)
    go_big_quiet_step (fail)
    refine wpQuiet_nil ?_
    intro _ hw'
    obtain ⟨⟨dq, osq⟩, hw''⟩ := hw'
    subst hw''
    have lk := below_regrown w dq osq
    go_wp2_with fail
    go_ret
    exact ⟨ret_int (by rw [HF.out]), lk⟩

/-- a copy of the caller's with a mark behind -/
def Marked (w : World) (l : List Nat) (n : Nat) (e : Ending) (w' : World) : Prop :=
  ∃ ao cap, e = .returned (.slice ao n cap) ∧ Own w' w.heap.size ao (n + 1) cap (l ++ [77]) ∧ Below w.heap.size w w'

set_option maxHeartbeats 2000000 in
theorem own_any (ao : Option Addr) (n cap : Nat) (l : List Nat) (hl : l.length = n) (hn : n < 140737488355328) (w : World) (hr : Rd w ao l) :
    Calls Tryd.prog 9 #[.slice ao n cap] w (Marked w l n) := by
  have HR := Lib.hid hr; have HL := Lib.hid hl
  clear hr hl
  go_enter Tryd.func9, Tryd.ntmps9
  go_wp2_with (first
    | (at_builtin; refine wpList_app rfl (.tmp 3) (.tmp 4) rfl rfl (Own.none' w w.heap.size (Nat.le_refl _)) rfl (HR.out.below (below_alloc (Below.refl _ _) _)) HL.out (by simp) (by omega) ?_; intro ao2 cap2 w2 hown2 hk2 hn2; simp only [Nat.zero_add, List.nil_append] at hown2; have hb2 := (Own.none' w w.heap.size (Nat.le_refl _)).step (below_alloc (Below.refl _ _) _) (by simp) hk2; have hs2 := hb2.size)
    | (at_builtin; refine wpList_app rfl (.tmp 5) (.tmp 6) rfl rfl (hown2.below (below_alloc (Below.refl _ _) _)) rfl (Own.one w2 w.heap.size 77 (by omega) (by omega)).rd rfl (by simp; omega) (by omega) ?_; intro ao3 cap3 w3 hown3 hk3 hn3; have hle3 := hown3.le))
  go_ret
  exact ⟨ao3, cap3, rfl, hown3, hown2.below (below_alloc (Below.refl _ _) _) |>.step (below_alloc hb2 _) (by simp; omega) hk3⟩

set_option maxHeartbeats 2000000 in
theorem still_any (ao bo : Option Addr) (n cap d : Nat) (l : List Nat) (hl : l.length = n) (hc : n < cap) (hn : n < 140737488355328) (w : World) (h1 : Rd w ao (l ++ [77])) (h2 : Rd w bo l) :
    Calls Tryd.prog 15 #[.slice ao n cap, .slice bo n d] w fun e w' => e = .returned (.bool true) ∧ Below w.heap.size w w' := by
  have h3 : Rd w ao l := by have := h1.take l.length; rwa [List.take_left] at this
  have c1 := same_any ao bo n n cap d l l hl hl (by omega) w h3 h2
  rw [beq_self_eq_true] at c1
  have C1 := Lib.hid c1
  obtain ⟨g, o, rfl, hg, hcell⟩ := h1.at_ n (by simp; omega)
  have e77 : bt (l ++ [77]) n = 77 := by rw [← hl, ← Nat.add_zero l.length, bt_append_add]; rfl
  rw [e77] at hcell
  clear c1 h1 h2 h3 hl e77
  go_enter Tryd.func15, Tryd.ntmps15
  go_wp2_with fail
  refine C1.out.mono ?_
  rintro e w1 ⟨rfl, l1⟩
  have hc1 := (l1.cell (p := ⟨g, o + n, none⟩) hg).trans hcell
  clear hcell
  go_wp2_with fail
  go_ret
  exact ⟨rfl, l1⟩
end Go.Proofs.YtbbafjgbcmlacaaDoor
