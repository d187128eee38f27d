/- ProposerOneValue: the law's struct x and its parts; what is loaded of it, a message that is stored. -/
import Derived.Test.YtgfalpiifgoonaaWd
namespace Go.Proofs.Ytgfalpiifgoonaa
open Go.RowKit Go.Sort
set_option linter.unusedVariables false
set_option linter.unusedSectionVars false
set_option linter.unusedSimpArgs false
set_option maxRecDepth 100000
structure WdW (w : World) (B xb n : Nat) (tg : Nat → Nat) (H : Hd) (c d : Nat) (vote : ByteArray) (x : PX) : Prop where
  pt : Parts w B n tg H c d x
  row : w.heap[xb]? = some (.cells (rowX H n vote x) 66 (0, 0))
  xt : tg xb = 0
  base : B ≤ xb
/-- the list of kind i, as a value -/
def PX.lv (x : PX) (H : Hd) (i : Nat) : Value := if i < 2 then .slice none 0 0 else H.sv x i
section
variable {w w' : World} {B xb n c d : Nat} {tg : Nat → Nat} {H : Hd} {vote : ByteArray} {x : PX} {U : List Nat}
theorem WdW.lt (h : WdW w B xb n tg H c d vote x) : xb < w.heap.size := (Array.getElem?_eq_some_iff.1 h.row).1
theorem WdW.below (h : WdW w B xb n tg H c d vote x) (b : Below w.heap.size w w') : WdW w' B xb n tg H c d vote x :=
  ⟨h.pt.below b, row_keep h.row (Keep.of_below b []) (by simp), h.xt, h.base⟩
theorem WdW.at_ (h : WdW w B xb n tg H c d vote x) {i : Nat} {v : Value} (hv : (rowX H n vote x)[i]? = some v) : w.cell? ⟨xb, i, none⟩ = some v := by
  have := cell_of_row w xb i _ _ (0, 0) h.row
  rw [this]
  exact hv
theorem WdW.fr (h : WdW w B xb n tg H c d vote x) (i : Nat) : w.frozen? ⟨xb, i, none⟩ = false := frozen_of_row w xb i _ _ h.row
theorem WdW.acc (h : WdW w B xb n tg H c d vote x) : w.cell? ⟨xb, 0, none⟩ = some (.slice (some ⟨H.aA, 0, none⟩) n H.cA) := h.at_ rfl
theorem WdW.pro (h : WdW w B xb n tg H c d vote x) : w.cell? ⟨xb, 1, none⟩ = some (.slice (some ⟨H.aP, 0, none⟩) 3 H.cP) := h.at_ rfl
theorem WdW.lea (h : WdW w B xb n tg H c d vote x) : w.cell? ⟨xb, 2, none⟩ = some (.slice (some ⟨H.aL, 0, none⟩) 3 H.cL) := h.at_ rfl
theorem WdW.rd (h : WdW w B xb n tg H c d vote x) : w.cell? ⟨xb, 3, none⟩ = some (.int .u32 x.rd) := h.at_ rfl
theorem WdW.vt (h : WdW w B xb n tg H c d vote x) : w.cell? ⟨xb, 4, none⟩ = some (.string vote) := h.at_ rfl
theorem WdW.l (h : WdW w B xb n tg H c d vote x) {i : Nat} (hi : i < 6) : w.cell? ⟨xb, 5 + i, none⟩ = some (x.lv H i) := by
  refine h.at_ ?_
  rcases (show i = 0 ∨ i = 1 ∨ i = 2 ∨ i = 3 ∨ i = 4 ∨ i = 5 by omega) with rfl | rfl | rfl | rfl | rfl | rfl <;> rfl
theorem owns_cellz {e : TypeId} {z n : Nat} {ao : Option Addr} {cap : Nat} {xs : List Value} (ho : w.ownsRow B e z (.slice ao n cap) n xs) (j : Nat) (hj : j < n * z) : ∃ g v, ao = some ⟨g, 0, none⟩ ∧ g < w.heap.size ∧ B ≤ g ∧ xs[j]? = some v ∧ w.cell? ⟨g, j, none⟩ = some v ∧ w.frozen? ⟨g, j, none⟩ = false := by
  have hl := ho.1
  rcases ho.2 with ⟨h2, h3⟩ | ⟨g, cap', cur, h2, hb, hg, h3, h4, h5, h6⟩
  · subst h3; simp at hj
  · cases h2
    have hj2 : j < xs.length := by omega
    refine ⟨g, xs[j], rfl, (Array.getElem?_eq_some_iff.1 hg).1, hb, List.getElem?_eq_getElem hj2, ?_, frozen_of_row w g j cur _ hg⟩
    rw [cell_of_row w g j cur _ (0, 0) hg]
    have := congrArg (·[j]?) h6
    simp only [List.getElem?_take] at this
    rw [if_pos (by omega), Array.getElem?_toList] at this
    rw [this, List.getElem?_eq_getElem hj2]
/-- a message that was sent -/
theorem WdW.mem (h : WdW w B xb n tg H c d vote x) {i : Nat} (h2 : 2 ≤ i) (h5 : i ≤ 5) {j : Nat} {m : Mg} (hj : (x.ms i)[j]? = some m) : ∃ g, H.sl i = some ⟨g, 0, none⟩ ∧ g < w.heap.size ∧ j < (x.ms i).length ∧ (x.ms i).length ≤ H.cap i ∧
    ∀ q, q < 9 → w.cell? ⟨g, j * 9 + q, none⟩ = (cM m)[q]? := by
  obtain ⟨h1, _⟩ := h.pt.msg i h2 h5
  have hl := (List.getElem?_eq_some_iff.1 hj).1
  obtain ⟨g, e1, _, e3, _, e5⟩ := owns_none h1 (by omega)
  refine ⟨g, e1, e5, hl, e3, fun q hq => ?_⟩
  obtain ⟨g2, v, e6, _, _, e7, e8, _⟩ := owns_cellz h1 (j * 9 + q) (by omega)
  rw [e1] at e6
  simp only [Option.some.injEq, Addr.mk.injEq, and_true] at e6
  subst e6
  rw [e8, ← e7, fl_at cM_len (x.ms i) j q hq, hj]
  rfl
/-- a message is stored -/
theorem WdW.sent (h : WdW w B xb n tg H c d vote x) {i : Nat} (h2 : 2 ≤ i) (h5 : i ≤ 5) {m : Mg} (hm : m.Ok n i) {ao : Option Addr} {cap : Nat} (kp : Keep (blk (H.sl i)) w w') (hb : ∀ g ∈ blk ao, g ∈ blk (H.sl i) ∨ w.heap.size ≤ g)
    (ho : w'.ownsRow B 105 9 (.slice ao ((x.ms i).length + 1) cap) ((x.ms i).length + 1) (fl cM (x.ms i) ++ cM m)) :
    WdW (w'.setCell ⟨xb, 5 + i, none⟩ (.slice ao ((x.ms i).length + 1) cap)) B xb n (own2 tg ao (20 + i)) (H.at_ i ao cap) c (d + 1) vote (x.adds i [m]) := by
  have hx : xb ∉ blk (H.sl i) := fun hm => by
    have := (h.pt.msg i h2 h5).2 xb hm
    rw [h.xt] at this; omega
  have hx2 : xb ∉ blk ao := fun hm => by
    rcases hb xb hm with h1 | h1
    · exact hx h1
    · have := h.lt; omega
  have ht : own2 tg ao (20 + i) xb = 0 := by unfold own2; rw [if_neg hx2]; exact h.xt
  have hr := row_keep h.row kp hx
  refine ⟨(h.pt.more h2 h5 hm kp hb ho).keep (Keep.setCell w' ⟨xb, 5 + i, none⟩ _) (fun g hg => by rw [List.mem_singleton.1 hg]; exact ht), ?_, ht, h.base⟩
  refine (heap_setCell_same w' xb (5 + i) _ _ _ hr).trans ?_
  have hq : (rowX H n vote x).setIfInBounds (5 + i) (Value.slice ao ((x.ms i).length + 1) cap) = rowX (H.at_ i ao cap) n vote (x.adds i [m]) := by
    rcases (show i = 2 ∨ i = 3 ∨ i = 4 ∨ i = 5 by omega) with rfl | rfl | rfl | rfl <;> simp [rowX, Hd.sv, Hd.at_, PX.adds, PX.ms]
  rw [← hq]
/-- the round -/
theorem WdW.round (h : WdW w B xb n tg H c d vote x) (r : Int) : WdW (w.setCell ⟨xb, 3, none⟩ (.int .u32 r)) B xb n tg H c d vote {x with rd := r} := by
  have hp := h.pt.keep (Keep.setCell w ⟨xb, 3, none⟩ (.int .u32 r)) (fun g hg => by rw [List.mem_singleton.1 hg]; exact h.xt)
  exact ⟨⟨hp.n1, hp.n5, hp.sA, hp.sP, hp.sL, hp.tA, hp.tP, hp.tL, hp.tab, hp.pro, hp.lea, hp.msg, hp.mok, hp.len⟩, heap_setCell_same w xb 3 _ _ _ h.row, h.xt, h.base⟩
/-- a message laid over a block of its own -/
abbrev layM (w : World) (mb : Nat) (m : Mg) : World := ((((((((w.setCell ⟨mb, 0, none⟩ (.int .i64 m.to_)).setCell ⟨mb, 1, none⟩ (.int .i64 m.fr)).setCell ⟨mb, 2, none⟩ (.int .u32 m.b.round)).setCell ⟨mb, 3, none⟩ (.int .u8 m.b.node)).setCell ⟨mb, 4, none⟩ (.string m.v)).setCell ⟨mb, 5, none⟩ (.bool m.a.is)).setCell ⟨mb, 6, none⟩ (.int .u32 m.a.b.round)).setCell ⟨mb, 7, none⟩ (.int .u8 m.a.b.node)).setCell ⟨mb, 8, none⟩ (.string m.a.v)
theorem layM_keep (w : World) (mb : Nat) (m : Mg) : Keep [mb] w (layM w mb m) :=
  ((((((((Keep.setCell w ⟨mb, 0, none⟩ _).trans (Keep.setCell _ ⟨mb, 1, none⟩ _)).trans (Keep.setCell _ ⟨mb, 2, none⟩ _)).trans (Keep.setCell _ ⟨mb, 3, none⟩ _)).trans (Keep.setCell _ ⟨mb, 4, none⟩ _)).trans (Keep.setCell _ ⟨mb, 5, none⟩ _)).trans (Keep.setCell _ ⟨mb, 6, none⟩ _)).trans (Keep.setCell _ ⟨mb, 7, none⟩ _)).trans (Keep.setCell _ ⟨mb, 8, none⟩ _)
theorem layM_row {w : World} {mb : Nat} {m : Mg} {a0 a1 a2 a3 a4 a5 a6 a7 a8 : Value} (h : w.heap[mb]? = some (.cells #[a0, a1, a2, a3, a4, a5, a6, a7, a8] 105 (0, 0))) :
    (layM w mb m).heap[mb]? = some (.cells #[.int .i64 m.to_, .int .i64 m.fr, .int .u32 m.b.round, .int .u8 m.b.node, .string m.v, .bool m.a.is, .int .u32 m.a.b.round, .int .u8 m.a.b.node, .string m.a.v] 105 (0, 0)) := by
  obtain ⟨w0, e⟩ : ∃ w', w' = w := ⟨_, rfl⟩
  rw [← e] at h
  have h0 : (w0.setCell ⟨mb, 0, none⟩ (.int .i64 m.to_)).heap[mb]? = some (.cells #[.int .i64 m.to_, a1, a2, a3, a4, a5, a6, a7, a8] 105 (0, 0)) := heap_setCell_same w0 mb 0 _ _ _ h
  obtain ⟨w1, e0⟩ : ∃ w', w' = w0.setCell ⟨mb, 0, none⟩ (.int .i64 m.to_) := ⟨_, rfl⟩
  rw [← e0] at h0
  have h1 : (w1.setCell ⟨mb, 1, none⟩ (.int .i64 m.fr)).heap[mb]? = some (.cells #[.int .i64 m.to_, .int .i64 m.fr, a2, a3, a4, a5, a6, a7, a8] 105 (0, 0)) := heap_setCell_same w1 mb 1 _ _ _ h0
  obtain ⟨w2, e1⟩ : ∃ w', w' = w1.setCell ⟨mb, 1, none⟩ (.int .i64 m.fr) := ⟨_, rfl⟩
  rw [← e1] at h1
  have h2 : (w2.setCell ⟨mb, 2, none⟩ (.int .u32 m.b.round)).heap[mb]? = some (.cells #[.int .i64 m.to_, .int .i64 m.fr, .int .u32 m.b.round, a3, a4, a5, a6, a7, a8] 105 (0, 0)) := heap_setCell_same w2 mb 2 _ _ _ h1
  obtain ⟨w3, e2⟩ : ∃ w', w' = w2.setCell ⟨mb, 2, none⟩ (.int .u32 m.b.round) := ⟨_, rfl⟩
  rw [← e2] at h2
  have h3 : (w3.setCell ⟨mb, 3, none⟩ (.int .u8 m.b.node)).heap[mb]? = some (.cells #[.int .i64 m.to_, .int .i64 m.fr, .int .u32 m.b.round, .int .u8 m.b.node, a4, a5, a6, a7, a8] 105 (0, 0)) := heap_setCell_same w3 mb 3 _ _ _ h2
  obtain ⟨w4, e3⟩ : ∃ w', w' = w3.setCell ⟨mb, 3, none⟩ (.int .u8 m.b.node) := ⟨_, rfl⟩
  rw [← e3] at h3
  have h4 : (w4.setCell ⟨mb, 4, none⟩ (.string m.v)).heap[mb]? = some (.cells #[.int .i64 m.to_, .int .i64 m.fr, .int .u32 m.b.round, .int .u8 m.b.node, .string m.v, a5, a6, a7, a8] 105 (0, 0)) := heap_setCell_same w4 mb 4 _ _ _ h3
  obtain ⟨w5, e4⟩ : ∃ w', w' = w4.setCell ⟨mb, 4, none⟩ (.string m.v) := ⟨_, rfl⟩
  rw [← e4] at h4
  have h5 : (w5.setCell ⟨mb, 5, none⟩ (.bool m.a.is)).heap[mb]? = some (.cells #[.int .i64 m.to_, .int .i64 m.fr, .int .u32 m.b.round, .int .u8 m.b.node, .string m.v, .bool m.a.is, a6, a7, a8] 105 (0, 0)) := heap_setCell_same w5 mb 5 _ _ _ h4
  obtain ⟨w6, e5⟩ : ∃ w', w' = w5.setCell ⟨mb, 5, none⟩ (.bool m.a.is) := ⟨_, rfl⟩
  rw [← e5] at h5
  have h6 : (w6.setCell ⟨mb, 6, none⟩ (.int .u32 m.a.b.round)).heap[mb]? = some (.cells #[.int .i64 m.to_, .int .i64 m.fr, .int .u32 m.b.round, .int .u8 m.b.node, .string m.v, .bool m.a.is, .int .u32 m.a.b.round, a7, a8] 105 (0, 0)) := heap_setCell_same w6 mb 6 _ _ _ h5
  obtain ⟨w7, e6⟩ : ∃ w', w' = w6.setCell ⟨mb, 6, none⟩ (.int .u32 m.a.b.round) := ⟨_, rfl⟩
  rw [← e6] at h6
  have h7 : (w7.setCell ⟨mb, 7, none⟩ (.int .u8 m.a.b.node)).heap[mb]? = some (.cells #[.int .i64 m.to_, .int .i64 m.fr, .int .u32 m.b.round, .int .u8 m.b.node, .string m.v, .bool m.a.is, .int .u32 m.a.b.round, .int .u8 m.a.b.node, a8] 105 (0, 0)) := heap_setCell_same w7 mb 7 _ _ _ h6
  obtain ⟨w8, e7⟩ : ∃ w', w' = w7.setCell ⟨mb, 7, none⟩ (.int .u8 m.a.b.node) := ⟨_, rfl⟩
  rw [← e7] at h7
  have h8 : (w8.setCell ⟨mb, 8, none⟩ (.string m.a.v)).heap[mb]? = some (.cells #[.int .i64 m.to_, .int .i64 m.fr, .int .u32 m.b.round, .int .u8 m.b.node, .string m.v, .bool m.a.is, .int .u32 m.a.b.round, .int .u8 m.a.b.node, .string m.a.v] 105 (0, 0)) := heap_setCell_same w8 mb 8 _ _ _ h7
  obtain ⟨w9, e8⟩ : ∃ w', w' = w8.setCell ⟨mb, 8, none⟩ (.string m.a.v) := ⟨_, rfl⟩
  rw [← e8] at h8
  unfold layM
  rw [← e, ← e0, ← e1, ← e2, ← e3, ← e4, ← e5, ← e6, ← e7, ← e8]
  exact h8
theorem WdW.up (h : WdW w B xb n tg H c d vote x) {d' : Nat} (hd : d ≤ d') : WdW w B xb n tg H c d' vote x :=
  ⟨⟨h.pt.n1, h.pt.n5, h.pt.sA, h.pt.sP, h.pt.sL, h.pt.tA, h.pt.tP, h.pt.tL, h.pt.tab, h.pt.pro, h.pt.lea, h.pt.msg, h.pt.mok, fun i => Nat.le_trans (h.pt.len i) hd⟩, h.row, h.xt, h.base⟩
theorem WdW.upc (h : WdW w B xb n tg H c d vote x) {c' : Nat} (hc : c ≤ c') : WdW w B xb n tg H c' d vote x :=
  ⟨⟨h.pt.n1, h.pt.n5, h.pt.sA, h.pt.sP, h.pt.sL, h.pt.tA, h.pt.tP, h.pt.tL, h.pt.tab, h.pt.pro, fun j hj => let ⟨h1, h2⟩ := h.pt.lea j hj; ⟨h1.more hc, h2⟩, h.pt.msg, h.pt.mok, h.pt.len⟩, h.row, h.xt, h.base⟩
/-- the law's own blocks (owner 4) stay -/
structure Trn (B : Nat) (tg tg' : Nat → Nat) (w w' : World) : Prop where
  bel : Below B w w'
  own : ∀ g, g < w.heap.size → tg g = 4 → w'.heap[g]? = w.heap[g]? ∧ tg' g = 4
/-- who has accepted nothing holds nothing -/
def PX.Nn (n : Nat) (x : PX) : Prop := ∀ k, k < n → (x.r k).a.is = false → (x.r k).a = a0
/-- what a step ends in -/
def StEnd (W : World) (B xb n : Nat) (tg : Nat → Nat) (c d : Nat) (vote : ByteArray) (x : PX) (ds : List ByteArray) (e : Ending) (w' : World) : Prop :=
  e = .returned (.tuple #[]) ∧ ∃ tg' H' x', WdW w' B xb n tg' H' (c + 1) (d + 5) vote x' ∧ x'.Inv n vote ∧ Trn B tg tg' W w' ∧ x'.ds = ds ∧ x'.rd ≤ x.rd + 1 ∧ x'.Nn n
end
end Go.Proofs.Ytgfalpiifgoonaa
