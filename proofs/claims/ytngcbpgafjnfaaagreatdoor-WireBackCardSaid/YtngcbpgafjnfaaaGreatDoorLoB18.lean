/- Two items that are alike. Which fields a kind uses. -/
import Derived.Test.YtngcbpgafjnfaaaGreatDoorLoB17
import Derived.Laws.Alloc2
import Derived.Test.YtngcbpgafjnfaaaGreatDoorLoB16
set_option linter.unusedSimpArgs false
set_option linter.unusedVariables false

namespace Go.Proofs.YtngcbpgafjnfaaaGreatDoor
open Go.RowKit Go.Sort
set_option linter.unusedVariables false
set_option linter.unusedSimpArgs false

theorem two_boxes (w : World) (A B : Array Value) (T U : TypeId) : ∃ w1, (w.alloc (.cells A T)).alloc (.cells B U) = w1 ∧ Below w.heap.size w w1 ∧ w1.heap.size = w.heap.size + 2 ∧ (∀ (j : Nat) (u : Value), A[j]? = some u → w1.cell? ⟨w.heap.size, j, none⟩ = some u) ∧ (∀ (j : Nat) (u : Value), B[j]? = some u → w1.cell? ⟨w.heap.size + 1, j, none⟩ = some u) :=
  ⟨_, rfl, below_alloc (below_alloc (Below.refl _ _) _) _, by simp, fun j u h => by rw [World.cell?_alloc2_first]; exact h, fun j u h => by rw [World.cell?_alloc2_new]; exact h⟩
/-- cells in a block that was there -/
theorem cells_on {w w' : World} (h : Below w.heap.size w w') {g : Nat} (hg : g < w.heap.size) {A : Array Value} (hA : ∀ (j : Nat) (u : Value), A[j]? = some u → w.cell? ⟨g, j, none⟩ = some u) (j : Nat) (u : Value) (hu : A[j]? = some u) : w'.cell? ⟨g, j, none⟩ = some u :=
  (h.cell (p := ⟨g, j, none⟩) hg).trans (hA j u hu)

set_option maxHeartbeats 4000000 in
theorem item_same (cs ds : List Value) (x : Itm) (w : World) (h1 : itmK.is w (Here w) cs x) (h2 : itmK.is w (Here w) ds x) :
    Calls Tryz.prog 84 #[.agg cs.toArray, .agg ds.toArray] w (Yes w) := by
  obtain ⟨c0, c1, c2, c3, c4, rfl, ⟨rfl, _⟩, ⟨rfl, _⟩, rfl, ⟨ao, n, c, rfl, s1⟩, ⟨q1, rfl, _⟩⟩ := h1
  obtain ⟨d0, d1, d2, d3, d4, rfl, ⟨rfl, _⟩, ⟨rfl, _⟩, rfl, ⟨bo, m, d, rfl, s2⟩, ⟨_, rfl, _⟩⟩ := h2
  obtain ⟨i0, i1, i2, i3, hi⟩ := list4 x.incs q1
  have ES := Lib.hid (fun w' (b : Below w.heap.size w w') => entries_same ao bo n m c d x.data w' (SlIs.grow entK_fine b s1) (SlIs.grow entK_fine b s2))
  clear s1 s2 q1
  rw [hi]
  generalize x.bucket = y0 at *
  generalize x.ver = y1 at *
  generalize x.write = y2 at *
  have EI := eql_incs i0 i1 i2 i3
  show Calls Tryz.prog 84 #[.agg #[.int .i64 y0, .int .u32 y1, .bool y2, .slice ao n c, .int .u32 i0, .int .u32 i1, .int .u32 i2, .int .u32 i3], .agg #[.int .i64 y0, .int .u32 y1, .bool y2, .slice bo m d, .int .u32 i0, .int .u32 i1, .int .u32 i2, .int .u32 i3]] w (Yes w)
  obtain ⟨w1, e1, hb, hs, hA, hB⟩ := two_boxes w #[.int .i64 y0, .int .u32 y1, .bool y2, .slice ao n c, .int .u32 i0, .int .u32 i1, .int .u32 i2, .int .u32 i3] #[.int .i64 y0, .int .u32 y1, .bool y2, .slice bo m d, .int .u32 i0, .int .u32 i1, .int .u32 i2, .int .u32 i3] 187 187
  have E1 := Lib.hid e1; have HB := Lib.hid hb; have HS := Lib.hid hs; have HA := Lib.hid hA; have HBB := Lib.hid hB
  clear e1 hb hs hA hB hi
  go_enter Tryz.func84, Tryz.ntmps84
  go_wp2_with fail
  rw [E1.out]
  refine (ES.out w1 HB.out).mono ?_
  rintro e w2 ⟨rfl, b2⟩
  have hA := cells_on b2 (by rw [HS.out]; omega) HA.out
  have hB := cells_on b2 (by rw [HS.out]; omega) HBB.out
  have a0 := hA 0 _ rfl; have a1 := hA 1 _ rfl; have a2 := hA 2 _ rfl; have a4 := hA 4 _ rfl; have a5 := hA 5 _ rfl; have a6 := hA 6 _ rfl; have a7 := hA 7 _ rfl
  have d0 := hB 0 _ rfl; have d1 := hB 1 _ rfl; have d2 := hB 2 _ rfl; have d4 := hB 4 _ rfl; have d5 := hB 5 _ rfl; have d6 := hB 6 _ rfl; have d7 := hB 7 _ rfl
  clear hA hB
  go_wp2_with fail
  go_ret
  exact ⟨rfl, below_next HB.out b2⟩
end Go.Proofs.YtngcbpgafjnfaaaGreatDoor


namespace Go.Proofs.YtngcbpgafjnfaaaGreatDoor
open Go.RowKit
set_option linter.unusedVariables false

/-- the cells hold these numbers, as ints -/
def RdI (w : World) (ao : Option Addr) (l : List Nat) : Prop := ∀ (j x : Nat), l[j]? = some x → ∃ g o, ao = some ⟨g, o, none⟩ ∧ g < w.heap.size ∧ w.cell? ⟨g, o + j, none⟩ = some (.int .i64 (x : Int))
theorem RdI.below {w w' : World} {ao : Option Addr} {l : List Nat} (h : RdI w ao l) (b : Below w.heap.size w w') : RdI w' ao l := fun j x hx => by
  obtain ⟨g, o, e, h1, h2⟩ := h j x hx
  exact ⟨g, o, e, Nat.lt_of_lt_of_le h1 b.size, (b.cell (p := ⟨g, o + j, none⟩) h1).trans h2⟩
theorem RdI.nil (w : World) (ao : Option Addr) : RdI w ao [] := fun j x hx => by simp at hx
abbrev ics (l : List Nat) : List Value := l.map fun x : Nat => Value.int .i64 (x : Int)
theorem RdI.lit (w : World) (l : List Nat) : RdI (w.alloc (.cells (ics l).toArray 3)) (some ⟨w.heap.size, 0, none⟩) l := fun j x hx => by
  refine ⟨w.heap.size, 0, rfl, by simp, ?_⟩
  rw [cell_of_row _ _ _ _ _ (0, 0) (heap_alloc_new w _), Nat.zero_add, List.getElem?_toArray, List.getElem?_map, hx]; rfl
/-- numbers of the call's own -/
def MadeI (w : World) (l : List Nat) (e : Ending) (w' : World) : Prop := ∃ ao cap, e = .returned (.slice ao l.length cap) ∧ l.length ≤ cap ∧ cap ≤ maxLen ∧ RdI w' ao l ∧ (∀ b ∈ blk ao, w.heap.size ≤ b) ∧ (l = [] → ao = none) ∧ Below w.heap.size w w'
theorem int_info : (Tryz.prog.info? 3).map (fun i => (i.zero, i.size, i.bytes)) = some (some (.int .i64 0), 1, 8) := by kernel_rfl

theorem made_lit (w : World) (l : List Nat) (h : l.length ≤ 100) (h0 : l ≠ []) : MadeI w l (.returned (.slice (some ⟨w.heap.size, 0, none⟩) l.length l.length)) (w.alloc (.cells (ics l).toArray 3)) :=
  ⟨_, _, rfl, Nat.le_refl _, by unfold maxLen; omega, RdI.lit w l, fun b hb => by simp [blk] at hb; omega, fun h => absurd h h0, below_alloc (Below.refl _ _) _⟩

set_option maxHeartbeats 4000000 in
set_option maxRecDepth 100000 in
theorem ownfields_any (k : Nat) (h1 : 1 ≤ k) (h2 : k ≤ 23) (w : World) : Calls Tryz.prog 95 #[.int .i64 (k : Int)] w (MadeI w (uses k)) := by
  rcases (by omega : k = 1 ∨ k = 2 ∨ k = 3 ∨ k = 4 ∨ k = 5 ∨ k = 6 ∨ k = 7 ∨ k = 8 ∨ k = 9 ∨ k = 10 ∨ k = 11 ∨ k = 12 ∨ k = 13 ∨ k = 14 ∨ k = 15 ∨ k = 16 ∨ k = 17 ∨ k = 18 ∨ k = 19 ∨ k = 20 ∨ k = 21 ∨ k = 22 ∨ k = 23) with rfl | rfl | rfl | rfl | rfl | rfl | rfl | rfl | rfl | rfl | rfl | rfl | rfl | rfl | rfl | rfl | rfl | rfl | rfl | rfl | rfl | rfl | rfl
  all_goals
    go_enter Tryz.func95, Tryz.ntmps95
    go_wp2
    go_ret
    first
      | exact made_lit w _ (by decide) (by decide)
      | exact ⟨none, 0, rfl, Nat.le_refl _, Nat.zero_le _, RdI.nil _ _, fun b hb => by simp [blk] at hb, fun _ => rfl, Below.refl _ _⟩
theorem run_append_int_nil (w : World) (g n cap c : Nat) (h : n ≤ cap) : (Builtin.append_ #[164, 164] 164 #[.slice (some ⟨g, 0, none⟩) n cap, .slice none 0 c]).run Tryz.prog w = .ok (.slice (some ⟨g, 0, none⟩) n cap) w := by
  obtain ⟨i0, hi, hz0, hz1, hz2⟩ := info_parts int_info
  exact run_append_nothing w _ _ 164 3 i0 Tryz.underlying164 hi (some ⟨g, 0, none⟩) n cap h _ (Src.ofNil w Tryz.underlying164 c)
theorem wpList_runs2 {w : World} {ops : Array Oper} {rest : List Oper} {o : Oper} {a : Act} {Q : Exit → Act → World → Prop} (hgd : o.guard = none) (s x : Operand) (ho : o.op = .call { callee := .builtin .append, args := #[s, x], argTypes := #[164, 164] })
    {sv xv v : Value} (hs : a.eval s = sv) (hx : a.eval x = xv) (hr : (Builtin.append_ #[164, 164] 164 #[sv, xv]).run Tryz.prog w = .ok v w) (ht : o.type = 164 := by rfl) (h : wpList Tryz.prog ops Q rest (a.put o.dst v) w) : wpList Tryz.prog ops Q (o :: rest) a w := by
  refine wpList_plain hgd fun K hK => ?_
  unfold Oper.wp execOp
  simp only [ho, ht, resolve, invoke, builtin, Sem.run_bind, Sem.run_pure, Result.andThen_ok, List.map_toArray, List.map_cons, List.map_nil, hs, hx, hr]
  exact hK _ _ h
theorem all_pos (k : Nat) : (all_ k).length = 2 + (uses k).length := by simp [all_]; omega

set_option maxHeartbeats 4000000 in
theorem usedby_any (k : Nat) (h1 : 1 ≤ k) (h2 : k ≤ 23) (w : World) : Calls Tryz.prog 67 #[.int .i64 (k : Int)] w (MadeI w (all_ k)) := by
  obtain ⟨i0, hi, hz0, hz1, hz2⟩ := info_parts int_info
  have OF := Lib.hid (ownfields_any k h1 h2 (w.alloc (.cells #[.int .i64 0, .int .i64 1] 3)))
  have hul : (uses k).length ≤ 5 := by
    have : ∀ k, k < 24 → (uses k).length ≤ 5 := by decide
    exact this k (by omega)
  have hrow := heap_alloc_new w (.cells #[.int .i64 0, .int .i64 1] 3)
  have HROW := Lib.hid hrow
  have HALL := Lib.hid (show all_ k = [0, 1] ++ uses k from rfl)
  have HLEN := Lib.hid (all_pos k)
  clear hrow
  generalize hu : uses k = u at *
  go_enter Tryz.func67, Tryz.ntmps67
  go_wp2_with fail
  refine OF.out.mono ?_
  rintro e w1 ⟨ao, cap, rfl, hc1, hc2, hr, hb1, hnil, hb⟩
  have hg1 : w1.heap[w.heap.size]? = some (.cells #[.int .i64 0, .int .i64 1] 3 (0, 0)) := (hb.block _ (by simp)).trans HROW.out
  have hown : w1.ownsRow w.heap.size 3 1 (.slice (some ⟨w.heap.size, 0, none⟩) 2 2) 2 (ics [0, 1]) := ⟨rfl, .inr ⟨w.heap.size, 2, _, rfl, Nat.le_refl _, hg1, Nat.le_refl _, by decide, rfl, rfl⟩⟩
  have hbw : Below w.heap.size w w1 := below_of_alloc hb
  have HBW := Lib.hid hbw
  by_cases h0 : u = []
  · subst h0
    obtain rfl := hnil rfl
    have HAP := Lib.hid (run_append_int_nil w1 w.heap.size 2 2 cap (by omega))
    have HR2 : Hid (RdI w1 (some ⟨w.heap.size, 0, none⟩) [0, 1]) := Lib.hid (fun j y hy => ⟨w.heap.size, 0, rfl, by have := HBW.out.size; exact (Array.getElem?_eq_some_iff.1 hg1).1, by
      rw [cell_of_row _ _ _ _ _ (0, 0) hg1, Nat.zero_add]
      have hj : j < 2 := by have := (List.getElem?_eq_some_iff.1 hy).1; simpa using this
      rcases (by omega : j = 0 ∨ j = 1) with rfl | rfl
      · obtain rfl : 0 = y := by simpa using hy
        rfl
      · obtain rfl : 1 = y := by simpa using hy
        rfl⟩)
    clear hg1 hown hbw hr hb
    go_wp2_with (at_builtin; refine wpList_runs2 rfl (.tmp 3) (.tmp 5) rfl (sv := .slice (some ⟨w.heap.size, 0, none⟩) 2 2) (xv := .slice none 0 cap) rfl rfl HAP.out rfl ?_)
    go_ret
    rw [HALL.out]
    exact ⟨some ⟨w.heap.size, 0, none⟩, 2, rfl, Nat.le_refl _, by decide, HR2.out, fun b hb => by simp [blk] at hb; omega, fun h => by simp at h, HBW.out⟩
  · obtain ⟨x, hx⟩ : ∃ x, u[0]? = some x := by cases u with | nil => exact absurd rfl h0 | cons x l => exact ⟨x, rfl⟩
    obtain ⟨g2, o2, rfl, _, _⟩ := hr 0 x hx
    have hnews : ∀ j v, (ics u)[j]? = some v → w1.cell? ((⟨g2, o2, none⟩ : Addr).add j) = some v := fun j v hv => by
      rw [List.getElem?_map] at hv
      obtain ⟨y, hy, rfl⟩ := Option.map_eq_some_iff.1 hv
      obtain ⟨g', o', e, _, h9⟩ := hr j y hy
      cases e
      rw [Addr.add_lit]; exact h9
    have h1c : ∀ v ∈ ics u, v.oneCell' = true := fun v hv => by
      obtain ⟨y, _, rfl⟩ := List.mem_map.1 hv; rfl
    go_wp2_with (at_builtin; refine wpList_append_own _ rfl (.tmp 3) (.tmp 5) 164 rfl w.heap.size 3 i0 (.int .i64 0) 1 8 Tryz.underlying164 hi hz0 hz1 hz2 rfl (by decide) _ _ _ rfl hown ⟨g2, o2, none⟩ u.length cap (ics u) rfl (by simp) hnews h1c (by unfold maxLen; omega) (by omega) HBW.out.size ?_; intro v' w2 hown2 hgrow2 _)
    go_ret
    rcases hown2.2 with ⟨rfl, h9⟩ | ⟨g, cap2, cur, rfl, hb2, hg2, hnc, hcm, hcs, ht⟩
    · omega
    · rw [HALL.out]
      refine ⟨_, cap2, by rw [List.length_append]; rfl, by simp; omega, hcm, fun j y hy => ⟨g, 0, rfl, (Array.getElem?_eq_some_iff.1 hg2).1, ?_⟩, fun b hb => by simp [blk] at hb; omega, (fun h => by simp at h), ?_⟩
      · rw [Nat.zero_add, cell_of_row _ _ _ _ _ (0, 0) hg2]
        have hj : j < 2 + u.length := by have := (List.getElem?_eq_some_iff.1 hy).1; simp at this; omega
        have := congrArg (·[j]?) ht
        simp only [List.getElem?_take, Nat.mul_one] at this
        rw [if_pos hj] at this
        rw [← Array.getElem?_toList, this]
        have e2 : ics [0, 1] ++ ics u = ics ([0, 1] ++ u) := by simp [ics]
        rw [e2, List.getElem?_map, hy]; rfl
      · exact HBW.out.trans ⟨hgrow2.os, hgrow2.tape, hgrow2.output, hgrow2.size, fun j hj => hgrow2.block j (Nat.lt_of_lt_of_le hj HBW.out.size) (fun e => by
          have e2 : j = w.heap.size := (Option.some.inj e).symm ▸ rfl
          have h9 : j < w.heap.size := hj
          omega)⟩
end Go.Proofs.YtngcbpgafjnfaaaGreatDoor
