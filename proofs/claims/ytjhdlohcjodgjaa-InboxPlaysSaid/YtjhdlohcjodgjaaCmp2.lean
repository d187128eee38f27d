/- byDue. -/
import Derived.Test.YtjhdlohcjodgjaaCmp
namespace Go.Proofs.Ytjhdlohcjodgjaa
open Go.RowKit Go.Sort
set_option linter.unusedVariables false

theorem orI_cf (x y : Cal) : orI (cmpI x.due y.due) (cfNum x y) = cfDue x y := rfl
theorem or_at (a b : Int) (g : Nat) (W : World) (hg : g = W.heap.size) :
    Calls Try.prog 48 #[.slice (some ⟨g, 0, none⟩) 2 2] (W.alloc (.cells #[.int .i64 a, .int .i64 b] 3)) fun e w' => e = .returned (.int .i64 (orI a b)) ∧ W.alloc (.cells #[.int .i64 a, .int .i64 b] 3) = w' := by
  subst hg
  exact or_any a b _ _ (by go_simp) (by go_simp)
/-- new blocks and draws, and nothing else -/
def Gr (w W : World) : Prop := ∃ q os, W = grow (w.drewN q) os
theorem Gr.refl (w : World) : Gr w w := ⟨0, #[], by simp [World.drewN]⟩
theorem Gr.trans {a b c : World} (h : Gr a b) (k : Gr b c) : Gr a c := by
  obtain ⟨q, os, rfl⟩ := h
  obtain ⟨q2, os2, rfl⟩ := k
  exact ⟨q + q2, os ++ os2, by simp [grow, World.drewN, Nat.add_assoc]⟩
theorem Gr.alloc {a b : World} (h : Gr a b) (o : Obj) : Gr a (b.alloc o) := h.trans ⟨0, #[o], by rw [alloc_eq_grow]; simp [World.drewN]⟩
theorem Gr.drew {a b : World} (h : Gr a b) : Gr a b.drew := h.trans ⟨1, #[], by rw [grow_empty]; rfl⟩
theorem Gr.below {a b : World} (h : Gr a b) : Below a.heap.size a b := by
  obtain ⟨q, os, rfl⟩ := h
  exact ⟨rfl, rfl, rfl, by simp [grow, World.drewN], fun k hk => by simp [grow, World.drewN, Array.getElem?_append, hk]⟩
theorem Gr.two {a b : World} {o o' : Obj} (h : b = (a.alloc o).alloc o') : Gr a b := by subst h; exact ((Gr.refl a).alloc o).alloc o'
abbrev S10 (W0 W : World) (g1 g2 : Nat) (i i' : Nat) (t t' : Int) (s s' tr tr' d d' : Nat) : Prop :=
  Gr W0 W ∧ W.cell? ⟨g1, 0, none⟩ = some (.int .u64 (i : Int)) ∧ W.cell? ⟨g1, 1, none⟩ = some (.int .i64 t) ∧ W.cell? ⟨g1, 2, none⟩ = some (.int .i64 (s : Int)) ∧ W.cell? ⟨g1, 3, none⟩ = some (.int .i64 (tr : Int)) ∧ W.cell? ⟨g1, 4, none⟩ = some (.int .i64 (d : Int)) ∧
    W.cell? ⟨g2, 0, none⟩ = some (.int .u64 (i' : Int)) ∧ W.cell? ⟨g2, 1, none⟩ = some (.int .i64 t') ∧ W.cell? ⟨g2, 2, none⟩ = some (.int .i64 (s' : Int)) ∧ W.cell? ⟨g2, 3, none⟩ = some (.int .i64 (tr' : Int)) ∧ W.cell? ⟨g2, 4, none⟩ = some (.int .i64 (d' : Int)) ∧ g1 < W.heap.size ∧ g2 < W.heap.size
theorem keepS {W0 W W' : World} {g1 g2 : Nat} {i i' : Nat} {t t' : Int} {s s' tr tr' d d' : Nat} (h : S10 W0 W g1 g2 i i' t t' s s' tr tr' d d') (k : Gr W W') : S10 W0 W' g1 g2 i i' t t' s s' tr tr' d d' := by
  obtain ⟨h0, h1, h2, h3, h4, h5, h6, h7, h8, h9, h10, l1, l2⟩ := h
  have b := k.below
  exact ⟨h0.trans k, (b.cell l1).trans h1, (b.cell l1).trans h2, (b.cell l1).trans h3, (b.cell l1).trans h4, (b.cell l1).trans h5, (b.cell l2).trans h6, (b.cell l2).trans h7, (b.cell l2).trans h8, (b.cell l2).trans h9, (b.cell l2).trans h10, Nat.lt_of_lt_of_le l1 b.size, Nat.lt_of_lt_of_le l2 b.size⟩
theorem boxes (w : World) (i i' : Nat) (t t' : Int) (s s' tr tr' d d' : Nat) : S10 w ((w.alloc (boxc ⟨i, t, s, tr, d⟩)).alloc (boxc ⟨i', t', s', tr', d'⟩)) w.heap.size (w.heap.size + 1) i i' t t' s s' tr tr' d d' := by
  refine ⟨((Gr.refl w).alloc _).alloc _, ?_, ?_, ?_, ?_, ?_, ?_, ?_, ?_, ?_, ?_, by simp; omega, by simp⟩
  all_goals go_simp
set_option maxRecDepth 100000 in
set_option maxHeartbeats 4000000 in
theorem bydue_any (x y : Cal) (w : World) : Calls Try.prog 36 #[agv x, agv y] w fun e w' => e = .returned (.int .i64 (cfDue x y)) ∧ Gr w w' := by
  have C1 := Lib.hid compare64_any
  have C2 := Lib.hid (bynum_any x y)
  have HO := Lib.hid (orI_cf x y)
  generalize cfNum x y = c2 at *
  obtain ⟨i, t, s, tr, d⟩ := x
  obtain ⟨i', t', s', tr', d'⟩ := y
  simp only at HO
  generalize cfDue _ _ = cd at *
  go_enter Try.func36, Try.ntmps36
  go_wp2_with fail
  have hS := boxes w i i' t t' s s' tr tr' d d'
  generalize hw1 : (w.alloc (boxc ⟨i, t, s, tr, d⟩)).alloc (boxc ⟨i', t', s', tr', d'⟩) = w1 at *
  have hw1' : (w.alloc (.cells #[.int .u64 (i : Int), .int .i64 t, .int .i64 (s : Int), .int .i64 (tr : Int), .int .i64 (d : Int)] 70)).alloc (.cells #[.int .u64 (i' : Int), .int .i64 t', .int .i64 (s' : Int), .int .i64 (tr' : Int), .int .i64 (d' : Int)] 70) = w1 := hw1
  try rw [hw1']
  clear hw1 hw1'
  go_region_held3 (fun W => S10 w W w.heap.size (w.heap.size + 1) i i' t t' s s' tr tr' d d')
    (first | assumption | exact keepS (by assumption) (Gr.refl _).drew | exact keepS (by assumption) ((Gr.refl _).alloc _) | exact keepS (by assumption) (by assumption))
    (first
      | (go_at_call 49; refine (C1.out _ _ _).mono ?_; rintro e w1 ⟨rfl, rfl⟩)
      | (go_at_call 38; refine (C2.out _).mono ?_; rintro e w2 ⟨rfl, hw2⟩; have g2 := Gr.two hw2; clear hw2)
      | (go_at_call 48; refine (or_at _ _ _ _ rfl).mono ?_; rintro e w3 ⟨rfl, rfl⟩))
  all_goals
    go_wp2_with fail
    go_ret
    exact ⟨ret_int HO.out, ((hS.1.drew).trans g2).alloc _⟩
end Go.Proofs.Ytjhdlohcjodgjaa
