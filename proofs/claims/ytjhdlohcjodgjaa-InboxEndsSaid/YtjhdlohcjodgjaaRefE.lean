/- The document's Due: its walk. -/
import Derived.Test.YtjhdlohcjodgjaaRefM
namespace Go.Proofs.Ytjhdlohcjodgjaa
open Go.RowKit
set_option linter.unusedVariables false

/-- a row of bools -/
structure Flag (w : World) (B g n : Nat) (F : Nat → Bool) : Prop where
  base : B ≤ g
  row : ∃ row, w.heap[g]? = some (.cells row 4 (0, 0)) ∧ n ≤ row.size ∧ ∀ j, j < n → row[j]? = some (.bool (F j))
section
variable {w w' : World} {B g n : Nat} {F : Nat → Bool}
theorem Flag.lt (h : Flag w B g n F) : g < w.heap.size := by obtain ⟨row, h1, _⟩ := h.row; exact (Array.getElem?_eq_some_iff.1 h1).1
theorem Flag.cell (h : Flag w B g n F) (j : Nat) (hj : j < n) : w.cell? ⟨g, j, none⟩ = some (.bool (F j)) := by
  obtain ⟨row, h1, _, h2⟩ := h.row
  rw [cell_of_row w g j row _ (0, 0) h1]; exact h2 j hj
theorem Flag.free (h : Flag w B g n F) (j : Nat) : w.frozen? ⟨g, j, none⟩ = false := by
  obtain ⟨row, h1, _⟩ := h.row
  exact frozen_of_row w g j row _ h1
theorem Flag.set (h : Flag w B g n F) (j : Nat) (hj : j < n) : Flag (w.setCell ⟨g, j, none⟩ (.bool true)) B g n (fun x => F x || decide (x = j)) := by
  obtain ⟨row, h1, h2, h3⟩ := h.row
  refine ⟨h.base, row.setIfInBounds j (.bool true), heap_setCell_same w g j row _ _ h1, by simpa using h2, fun x hx => ?_⟩
  by_cases e : x = j
  · subst e; rw [Array.getElem?_setIfInBounds_self_of_lt (by omega)]; simp
  · rw [Array.getElem?_setIfInBounds_ne (fun h => e h.symm), h3 x hx]; simp [e]
theorem Flag.made (h : w.ownsRow B 4 1 (.slice (some ⟨g, 0, none⟩) n n) n (madeCells #[.bool false] (n * 1)).toList) : Flag w B g n (fun _ => false) := by
  rcases h.2 with ⟨h1, _⟩ | ⟨g', cap, cur, h1, hb, hg, hnc, hcm, hcs, ht⟩
  · cases h1
  · cases h1
    have hsz : n ≤ cur.size := by omega
    refine ⟨hb, cur, hg, hsz, fun j hj => ?_⟩
    have := congrArg (·[j]?) ht
    simp only [List.getElem?_take, Nat.mul_one] at this
    rw [if_pos hj] at this
    rw [← Array.getElem?_toList, this]
    simp [madeCells, Nat.mod_one, hj]
end
theorem Flag.keep {w w' : World} {B g n : Nat} {F : Nat → Bool} {U : List Nat} (h : Flag w B g n F) (k : Keep U w w') (hg : g ∉ U) : Flag w' B g n F := by
  obtain ⟨row, h1, h2⟩ := h.row
  exact ⟨h.base, row, (k.block g (Array.getElem?_eq_some_iff.1 h1).1 hg).trans h1, h2⟩
theorem Flag.like {w : World} {B g n : Nat} {F G : Nat → Bool} (h : Flag w B g n F) (hF : ∀ i, i < n → F i = G i) : Flag w B g n G := by
  obtain ⟨row, h1, h2, h3⟩ := h.row
  exact ⟨h.base, row, h1, h2, fun j hj => by rw [h3 j hj, hF j hj]⟩
theorem bool_info2 : (Try.prog.info? 4).map (fun i => (i.zero, i.size, i.bytes)) = some (some (.bool false), 1, 1) := by kernel_rfl
/-- the flags as a list -/
def dnL (N : Nat) (F : Nat → Bool) : List Bool := (List.range N).map F
theorem dnL_at {N : Nat} {F : Nat → Bool} {i : Nat} (h : i < N) : (dnL N F)[i]? = some (F i) := by simp [dnL, h]
def Fn_ (l : List Cal) (n i : Nat) : Bool := decide (i + 1 ∈ (l.take n).map (·.id))
theorem Fn_succ (l : List Cal) (n : Nat) {x : Cal} (hx : l[n]? = some x) (h1 : 1 ≤ x.id) (i : Nat) : (Fn_ l n i || decide (i = x.id - 1)) = Fn_ l (n + 1) i := by
  have hk := (List.getElem?_eq_some_iff.1 hx).1
  have hx2 := (List.getElem?_eq_some_iff.1 hx).2
  unfold Fn_
  rw [List.take_succ_eq_append_getElem hk, hx2, List.map_append, Bool.eq_iff_iff]
  simp only [Bool.or_eq_true, decide_eq_true_eq, List.mem_append, List.map_cons, List.map_nil, List.mem_singleton]
  have : i = x.id - 1 ↔ i + 1 = x.id := by omega
  rw [this]
/-- the head of a round of the document's Due -/
structure RDue (w w1 : World) (B rb : Nat) (ao : Option Addr) (cap : Nat) (C : Cfg) (now : Nat) (T0 l : List Cal) (dg N : Nat) (v6 v7 : Value) (n : Nat) (wr : World) : Prop where
  st : RefW wr B rb ao cap (rRun C now T0 (l.take n)).T C
  keep : Keep (dg :: blk ao) w1 wr
  fl : Flag wr w.heap.size dg N (Fn_ l n)
  o6 : wr.ownsRow w1.heap.size 70 5 v6 (rRun C now T0 (l.take n)).again.length (lc (rRun C now T0 (l.take n)).again)
  o7 : wr.ownsRow w1.heap.size 70 5 v7 (rRun C now T0 (l.take n)).over.length (lc (rRun C now T0 (l.take n)).over)
  a67 : Apart v6 v7
theorem below_drewN {B : Nat} {w w' : World} (h : Below B w w') (n : Nat) : Below B w (w'.drewN n) := ⟨h.os, h.tape, h.output, h.size, h.block⟩
section
variable {w w1 wr wz : World} {B rb cap N n now : Nat} {ao : Option Addr} {C : Cfg} {T0 l : List Cal} {v6 v7 v' : Value}
/-- what a round turned -/
theorem RDue.kept (h : RDue w w1 B rb ao cap C now T0 l w.heap.size N v6 v7 n wr) (hao : ∀ g ∈ blk ao, g < w.heap.size) (hle : w.heap.size < w1.heap.size) {vk : Value} (hvk : ∀ g, vk.ownBlock = some g → w1.heap.size ≤ g)
    (kz : Keep ((w.heap.size :: blk ao) ++ vk.ownBlock.toList) wr wz) {v : Value} {m : Nat} {xs : List Value} (ho : wr.ownsRow w1.heap.size 70 5 v m xs) (ha : Apart vk v) : wz.ownsRow w1.heap.size 70 5 v m xs :=
  owns_keep ho kz (fun g hg hm => by
    have h1 := (owns_lt ho g hg).1
    rcases List.mem_append.1 hm with h2 | h2
    · rcases List.mem_cons.1 h2 with h3 | h3
      · omega
      · have := hao g h3; omega
    · simp at h2; exact ha g h2 hg)
theorem RDue.keepz (h : RDue w w1 B rb ao cap C now T0 l w.heap.size N v6 v7 n wr) {vk : Value} (hvk : ∀ g, vk.ownBlock = some g → w1.heap.size ≤ g)
    (kz : Keep ((w.heap.size :: blk ao) ++ vk.ownBlock.toList) wr wz) : Keep (w.heap.size :: blk ao) w1 wz := by
  refine ((h.keep.mono (T := (w.heap.size :: blk ao) ++ vk.ownBlock.toList) (fun q hq => .inl (List.mem_append_left _ hq))).trans kz).mono fun q hq => ?_
  rcases List.mem_append.1 hq with h1 | h1
  · exact .inl h1
  · simp at h1; exact .inr (hvk q h1)
theorem RDue.over (h : RDue w w1 B rb ao cap C now T0 l w.heap.size N v6 v7 n wr) (hao : ∀ g ∈ blk ao, g < w.heap.size) (hle : w.heap.size < w1.heap.size) {x : Cal} (hx : l[n]? = some x) (hov : C.tries ≤ x.tries)
    (kz : Keep ((w.heap.size :: blk ao) ++ v7.ownBlock.toList) wr wz) (st : RefW wz B rb ao cap ((rRun C now T0 (l.take n)).T.set (x.id - 1) x.ended) C) (fl : Flag wz w.heap.size w.heap.size N (Fn_ l (n + 1)))
    (ho : wz.ownsRow w1.heap.size 70 5 v' ((rRun C now T0 (l.take n)).over.length + 1) (lc (rRun C now T0 (l.take n)).over ++ x.list)) {H : Nat} (hb : v'.ownBlock = v7.ownBlock ∨ v'.ownBlock = some H) (hH : wr.heap.size ≤ H) :
    RDue w w1 B rb ao cap C now T0 l w.heap.size N v6 v' (n + 1) wz := by
  have hst : rRun C now T0 (l.take (n + 1)) = ⟨(rRun C now T0 (l.take n)).T.set (x.id - 1) x.ended, (rRun C now T0 (l.take n)).again, (rRun C now T0 (l.take n)).over ++ [x]⟩ := by rw [rRun_succ C now T0 l n hx, rStep, if_pos hov]
  have hv7 : ∀ g, v7.ownBlock = some g → w1.heap.size ≤ g := fun g hg => (owns_lt h.o7 g hg).1
  refine ⟨by rw [hst]; exact st, h.keepz hv7 kz, fl, by rw [hst]; exact h.kept hao hle hv7 kz h.o6 h.a67.symm, ?_, ?_⟩
  · rw [hst]; simp only [List.length_append, List.length_cons, List.length_nil, lc, fl_app, fl_one]; exact ho
  · exact (h.a67.symm.grow hb (fun g hg => Nat.lt_of_lt_of_le (owns_lt h.o6 g hg).2 hH)).symm
theorem RDue.again (h : RDue w w1 B rb ao cap C now T0 l w.heap.size N v6 v7 n wr) (hao : ∀ g ∈ blk ao, g < w.heap.size) (hle : w.heap.size < w1.heap.size) {x : Cal} (hx : l[n]? = some x) (hov : ¬ C.tries ≤ x.tries)
    (kz : Keep ((w.heap.size :: blk ao) ++ v6.ownBlock.toList) wr wz) (st : RefW wz B rb ao cap ((rRun C now T0 (l.take n)).T.set (x.id - 1) (triedC C x now)) C) (fl : Flag wz w.heap.size w.heap.size N (Fn_ l (n + 1)))
    (ho : wz.ownsRow w1.heap.size 70 5 v' ((rRun C now T0 (l.take n)).again.length + 1) (lc (rRun C now T0 (l.take n)).again ++ (triedC C x now).list)) {H : Nat} (hb : v'.ownBlock = v6.ownBlock ∨ v'.ownBlock = some H) (hH : wr.heap.size ≤ H) :
    RDue w w1 B rb ao cap C now T0 l w.heap.size N v' v7 (n + 1) wz := by
  have hst : rRun C now T0 (l.take (n + 1)) = ⟨(rRun C now T0 (l.take n)).T.set (x.id - 1) (triedC C x now), (rRun C now T0 (l.take n)).again ++ [triedC C x now], (rRun C now T0 (l.take n)).over⟩ := by rw [rRun_succ C now T0 l n hx, rStep, if_neg hov]
  have hv6 : ∀ g, v6.ownBlock = some g → w1.heap.size ≤ g := fun g hg => (owns_lt h.o6 g hg).1
  refine ⟨by rw [hst]; exact st, h.keepz hv6 kz, fl, ?_, by rw [hst]; exact h.kept hao hle hv6 kz h.o7 h.a67, ?_⟩
  · rw [hst]; simp only [List.length_append, List.length_cons, List.length_nil, lc, fl_app, fl_one]; exact ho
  · exact h.a67.grow hb (fun g hg => Nat.lt_of_lt_of_le (owns_lt h.o7 g hg).2 hH)
end
end Go.Proofs.Ytjhdlohcjodgjaa
