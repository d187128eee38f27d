/- The document's calls: a cell of a row laid; Close. -/
import Derived.Test.YtjhdlohcjodgjaaRefC
namespace Go.Proofs.Ytjhdlohcjodgjaa
open Go.RowKit
set_option linter.unusedVariables false

section
variable {w w' : World} {B rb cap : Nat} {ao : Option Addr} {T : List Cal} {C : Cfg}
theorem owns_put {w : World} {B n cap g : Nat} {xs : List Value} (ho : w.ownsRow B 70 5 (.slice (some ⟨g, 0, none⟩) n cap) n xs) (q : Nat) (hq : q < n * 5) (v : Value) : (w.setCell ⟨g, q, none⟩ v).ownsRow B 70 5 (.slice (some ⟨g, 0, none⟩) n cap) n (xs.set q v) := by
  refine ⟨by rw [List.length_set]; exact ho.1, ?_⟩
  rcases ho.2 with ⟨h2, h3⟩ | ⟨g', cap', cur, h2, hb, hg, h3, h4, h5, h6⟩
  · omega
  · cases h2
    refine .inr ⟨g, cap, cur.setIfInBounds q v, rfl, hb, heap_setCell_same w g q cur _ _ hg, h3, h4, by simpa using h5, ?_⟩
    rw [← h6]
    apply List.ext_getElem?
    intro k
    rw [List.getElem?_take]
    by_cases hk : k < n * 5
    · rw [if_pos hk, Array.getElem?_toList]
      by_cases ek : k = q
      · subst ek
        rw [Array.getElem?_setIfInBounds_self_of_lt (by omega), List.getElem?_set_self (by rw [List.length_take, Array.length_toList]; omega)]
      · rw [Array.getElem?_setIfInBounds_ne (by omega), List.getElem?_set_ne (by omega), List.getElem?_take, if_pos hk, Array.getElem?_toList]
    · rw [if_neg hk, List.getElem?_eq_none (by rw [List.length_set, List.length_take]; omega)]
theorem lc_set (T : List Cal) (j i : Nat) {x : Cal} (hx : T[j]? = some x) (hi : i < 5) (y : Cal) (v : Value) (hy : y.list = x.list.set i v) : (lc T).set (j * 5 + i) v = lc (T.set j y) := by
  have hj := (List.getElem?_eq_some_iff.1 hx).1
  refine fl_set (c := Cal.list) (z := 5) (fun _ => rfl) T j y _ (by rw [List.length_set]) hj (fun i' hi' => ?_) (fun q hq => ?_)
  · rw [hy]
    by_cases e : i' = i
    · subst e
      have h1 : j * 5 + i' < (lc T).length := by rw [lc_len]; omega
      rw [List.getElem?_set_self h1, List.getElem?_set_self (by simp; omega)]
    · rw [List.getElem?_set_ne (by omega), List.getElem?_set_ne (by omega), lc_at T j i' hi', hx]
      rfl
  · rw [List.getElem?_set_ne (by omega)]
/-- call j of the row is another -/
theorem RefW.set (h : RefW w B rb ao cap T C) {g j : Nat} {x y : Cal} (hao : ao = some ⟨g, 0, none⟩) (hx : T[j]? = some x) (hyi : y.id = x.id) (hyf : y.fits0)
    (hw : w'.ownsRow B 70 5 (.slice ao T.length cap) T.length (lc (T.set j y))) (k : Keep (blk ao) w w') : RefW w' B rb ao cap (T.set j y) C := by
  have hj := (List.getElem?_eq_some_iff.1 hx).1
  refine ⟨by rw [List.length_set]; exact (k.block rb h.hlt (fun hm => h.ne rb hm rfl)).trans h.row, by rw [List.length_set]; exact hw, h.ne, h.base, fun i z hz => ?_, fun z hz => ?_, h.ok⟩
  · by_cases e : i = j
    · subst e
      rw [List.getElem?_set_self hj] at hz
      cases hz
      rw [hyi]; exact h.ids i x hx
    · rw [List.getElem?_set_ne (Ne.symm e)] at hz
      exact h.ids i z hz
  · rcases List.mem_or_eq_of_mem_set hz with h1 | h1
    · exact h.fine z h1
    · exact h1 ▸ hyf
def Cal.ended (x : Cal) : Cal := ⟨x.id, x.to, x.since, 0, x.due⟩
set_option maxRecDepth 100000 in
set_option maxHeartbeats 2000000 in
theorem rclose_bad (id : Nat) (hid : id < 18446744073709551616) (w : World) (h : RefW w B rb ao cap T C) (hT : T.length ≤ 1000) (hr : id < 1 ∨ T.length < id) :
    Calls Try.prog 33 #[.pointer (some ⟨rb, 0, none⟩), .int .u64 (id : Int)] w fun e w' => e = .returned (.tuple #[zpk, .int .i64 82]) ∧ Below w.heap.size w w' := by
  have c4 := h.at_ 4
  simp only [rowR, List.getElem?_toArray, List.getElem?_cons_succ, List.getElem?_cons_zero] at c4
  have hlt := h.hlt
  generalize T.length = N at *
  clear h
  rcases hr with hr | hr
  all_goals
    go_enter Try.func33, Try.ntmps33
    go_wp2_with fail
    refine bodyPost_ret (v := .tuple #[zpk, .int .i64 82]) (results_cell_tmp Try.results33 rfl ?_ rfl) rfl ⟨rfl, ?_⟩
    · go_simp
    · exact below_alloc (Below.refl _ _) _
set_option maxRecDepth 100000 in
set_option maxHeartbeats 2000000 in
theorem rclose_gone (j : Nat) (w : World) (h : RefW w B rb ao cap T C) (hT : T.length ≤ 1000) {x : Cal} (hx : T[j]? = some x) (h0 : x.tries = 0) :
    Calls Try.prog 33 #[.pointer (some ⟨rb, 0, none⟩), .int .u64 ((j : Int) + 1)] w fun e w' => e = .returned (.tuple #[zpk, .int .i64 83]) ∧ Below w.heap.size w w' := by
  have c4 := h.at_ 4
  simp only [rowR, List.getElem?_toArray, List.getElem?_cons_succ, List.getElem?_cons_zero] at c4
  have hlt := h.hlt
  have hj := (List.getElem?_eq_some_iff.1 hx).1
  obtain ⟨g, hao, hgl, _, _, hcell⟩ := h.cell hx
  have x0 := hcell 0 (by omega); have x1 := hcell 1 (by omega); have x2 := hcell 2 (by omega); have x3 := hcell 3 (by omega); have x4 := hcell 4 (by omega)
  simp only [Nat.add_zero, List.getElem?_cons_succ, List.getElem?_cons_zero] at x0 x1 x2 x3 x4
  obtain ⟨xi, xt, xs, xtr, xd⟩ := x
  simp only at x0 x1 x2 x3 x4 h0
  subst h0 hao
  generalize T.length = N at *
  clear h hcell hx
  go_enter Try.func33, Try.ntmps33
  go_wp2_with fail
  refine bodyPost_ret (v := .tuple #[zpk, .int .i64 83]) (results_cell_tmp Try.results33 rfl ?_ rfl) rfl ⟨rfl, ?_⟩
  · go_simp
  · exact below_alloc (below_alloc (Below.refl _ _) _) _
set_option maxRecDepth 100000 in
set_option maxHeartbeats 2000000 in
theorem rclose_yes (j : Nat) (w : World) (h : RefW w B rb ao cap T C) (hT : T.length ≤ 1000) {x : Cal} (hx : T[j]? = some x) (h0 : 0 < x.tries) :
    Calls Try.prog 33 #[.pointer (some ⟨rb, 0, none⟩), .int .u64 ((j : Int) + 1)] w fun e w' => e = .returned (.tuple #[agv x, .int .i64 0]) ∧ RefW w' B rb ao cap (T.set j x.ended) C ∧ Keep (blk ao) w w' := by
  have c4 := h.at_ 4
  simp only [rowR, List.getElem?_toArray, List.getElem?_cons_succ, List.getElem?_cons_zero] at c4
  have hlt := h.hlt
  have hj := (List.getElem?_eq_some_iff.1 hx).1
  obtain ⟨g, hao, hgl, hgB, hgr, hcell⟩ := h.cell hx
  have x0 := hcell 0 (by omega); have x1 := hcell 1 (by omega); have x2 := hcell 2 (by omega); have x3 := hcell 3 (by omega); have x4 := hcell 4 (by omega)
  simp only [Nat.add_zero, List.getElem?_cons_succ, List.getElem?_cons_zero] at x0 x1 x2 x3 x4
  have hown := h.own
  rw [hao] at hown
  have hfz : w.frozen? ⟨g, j * 5 + 3, none⟩ = false := by
    rcases hown.2 with ⟨h2, _⟩ | ⟨g', cap', cur, h2, hb, hg, _⟩
    · cases h2
    · cases h2
      exact frozen_of_row w g (j * 5 + 3) cur _ hg
  have H := Lib.hid h; have HX := Lib.hid hx; have HOWN := Lib.hid hown; have HAO := Lib.hid hao
  obtain ⟨xi, xt, xs, xtr, xd⟩ := x
  simp only at x0 x1 x2 x3 x4 h0
  have h00 : ((xtr : Int) == 0) = false := by simp; omega
  subst hao
  obtain ⟨N, hN⟩ : ∃ N, T.length = N := ⟨_, rfl⟩
  have HN := Lib.hid hN
  rw [hN] at c4 hT hj hown HOWN
  clear h hcell hx hN hown
  go_enter Try.func33, Try.ntmps33
  go_wp2_with fail
  have k1 := Keep.setCell w ⟨g, j * 5 + 3, none⟩ (.int .i64 0)
  have ho := owns_put HOWN.out (j * 5 + 3) (by omega) (.int .i64 0)
  rw [lc_set T j 3 HX.out (by omega) (Cal.ended ⟨xi, xt, xs, xtr, xd⟩) (.int .i64 0) rfl] at ho
  have hf := H.out.fine _ (List.mem_of_getElem? HX.out)
  have h1 := H.out.set (w' := w.setCell ⟨g, j * 5 + 3, none⟩ (.int .i64 0)) rfl HX.out (y := Cal.ended ⟨xi, xt, xs, xtr, xd⟩) rfl (by unfold Cal.ended Cal.fits0 at *; simp only at *; omega) (by rw [HN.out]; exact ho) (by simpa [blk] using k1)
  refine bodyPost_ret (v := .tuple #[.agg #[.int .u64 (xi : Int), .int .i64 xt, .int .i64 (xs : Int), .int .i64 (xtr : Int), .int .i64 (xd : Int)], .int .i64 0]) (results_cell_tmp Try.results33 rfl ?_ rfl) rfl ⟨rfl, ?_, ?_⟩
  · go_simp
  · exact (h1.below (below_alloc (Below.refl _ _) _)).below (below_alloc (Below.refl _ _) _)
  · exact ((by simpa [blk] using k1 : Keep (blk (some ⟨g, 0, none⟩)) w (w.setCell ⟨g, j * 5 + 3, none⟩ (.int .i64 0))).alloc _).alloc _
end
end Go.Proofs.Ytjhdlohcjodgjaa
