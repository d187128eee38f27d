/- A step of a script: both calls at once; Open. -/
import Derived.Test.YtjhdlohcjodgjaaTwin2
namespace Go.Proofs.Ytjhdlohcjodgjaa
open Go.RowKit
set_option linter.unusedVariables false

abbrev rowT (hn rb now : Nat) : Array Value := #[.pointer (some ⟨hn, 0, none⟩), .pointer (some ⟨rb, 0, none⟩), .int .i64 (now : Int)]
/-- both calls behind a twin -/
structure TwinW (w : World) (B tb hn gm rb cap : Nat) (ao : Option Addr) (T : List Cal) (C : Cfg) (now : Nat) : Prop where
  A : CalsW w B hn gm (live T) C T.length
  R : RefW w B rb ao cap T C
  row : w.heap[tb]? = some (.cells (rowT hn rb now) 54 (0, 0))
  base : B ≤ tb
  t1 : tb ≠ hn ∧ tb ≠ gm ∧ tb ≠ rb ∧ tb ∉ blk ao
  t2 : rb ≠ hn ∧ rb ≠ gm ∧ hn ∉ blk ao ∧ gm ∉ blk ao
  tries : ∀ x ∈ T, x.tries ≤ C.tries
  time : now ≤ 2199023255552
section
variable {w w' : World} {B tb hn gm rb cap now : Nat} {ao : Option Addr} {T : List Cal} {C : Cfg}
theorem TwinW.tlt (h : TwinW w B tb hn gm rb cap ao T C now) : tb < w.heap.size := (Array.getElem?_eq_some_iff.1 h.row).1
theorem TwinW.at_ (h : TwinW w B tb hn gm rb cap ao T C now) (i : Nat) : w.cell? ⟨tb, i, none⟩ = (rowT hn rb now)[i]? := cell_of_row w tb i _ _ (0, 0) h.row
theorem TwinW.fr (h : TwinW w B tb hn gm rb cap ao T C now) (i : Nat) : w.frozen? ⟨tb, i, none⟩ = false := frozen_of_row w tb i _ _ h.row
theorem TwinW.keep {U : List Nat} (h : TwinW w B tb hn gm rb cap ao T C now) (k : Keep U w w') (hu : ∀ g ∈ U, g ≠ tb ∧ g ≠ hn ∧ g ≠ gm ∧ g ≠ rb ∧ g ∉ blk ao) : TwinW w' B tb hn gm rb cap ao T C now :=
  ⟨h.A.keep k (fun hm => (hu _ hm).2.1 rfl) (fun hm => (hu _ hm).2.2.1 rfl), h.R.keep k (fun hm => (hu _ hm).2.2.2.1 rfl) (fun g hg hm => (hu _ hm).2.2.2.2 hg),
    (k.block tb h.tlt (fun hm => (hu _ hm).1 rfl)).trans h.row, h.base, h.t1, h.t2, h.tries, h.time⟩
theorem TwinW.below (h : TwinW w B tb hn gm rb cap ao T C now) (b : Below w.heap.size w w') : TwinW w' B tb hn gm rb cap ao T C now := h.keep (Keep.of_below b []) (by simp)
theorem TwinW.setNow (h : TwinW w B tb hn gm rb cap ao T C now) (n : Nat) (hn2 : n ≤ 2199023255552) : TwinW (w.setCell ⟨tb, 2, none⟩ (.int .i64 (n : Int))) B tb hn gm rb cap ao T C n := by
  have k := Keep.setCell w ⟨tb, 2, none⟩ (.int .i64 (n : Int))
  obtain ⟨h1, h2, h3, h4⟩ := h.t1
  refine ⟨h.A.keep k (by simp; omega) (by simp; omega), h.R.keep k (by simp; omega) (fun g hg hm => by simp at hm; exact h4 (hm ▸ hg)), ?_, h.base, h.t1, h.t2, h.tries, hn2⟩
  exact heap_setCell_same w tb 2 _ _ _ h.row
/-- what a step leaves -/
def Stepped (B tb hn k : Nat) (w : World) (e : Ending) (w' : World) : Prop :=
  e = .returned (.bool true) ∧ (∃ gm rb cap ao T C now, TwinW w' B tb hn gm rb cap ao T C now ∧ T.length ≤ k + 1) ∧ Below B w w'
abbrev stv (kind n a : Int) (raw : Bool) : Value := .agg #[.int .i64 kind, .int .i64 n, .int .i64 a, .bool raw]
abbrev sto (kind n a : Int) (raw : Bool) : Obj := .cells #[.int .i64 kind, .int .i64 n, .int .i64 a, .bool raw] 57
abbrev BoxS (bx : Nat) (kind n a : Int) (raw : Bool) (w : World) : Prop := (w.cell? ⟨bx, 0, none⟩ = some (.int .i64 kind) ∧ w.cell? ⟨bx, 1, none⟩ = some (.int .i64 n) ∧ w.cell? ⟨bx, 2, none⟩ = some (.int .i64 a) ∧ w.cell? ⟨bx, 3, none⟩ = some (.bool raw)) ∧ bx < w.heap.size
theorem boxsKeep {bx : Nat} {kind n a : Int} {raw : Bool} {U : List Nat} {w w' : World} (h : BoxS bx kind n a raw w) (k : Keep U w w') (hn : bx ∉ U) : BoxS bx kind n a raw w' := by
  obtain ⟨⟨h0, h1, h2, h3⟩, h4⟩ := h
  exact ⟨⟨(k.cell h4 hn).trans h0, (k.cell h4 hn).trans h1, (k.cell h4 hn).trans h2, (k.cell h4 hn).trans h3⟩, Nat.lt_of_lt_of_le h4 k.size⟩
theorem boxsNew (w : World) (kind n a : Int) (raw : Bool) : BoxS w.heap.size kind n a raw (w.alloc (sto kind n a raw)) := by
  have h := heap_alloc_new w (sto kind n a raw)
  exact ⟨⟨cell_of_row _ w.heap.size 0 _ _ (0, 0) h, cell_of_row _ w.heap.size 1 _ _ (0, 0) h, cell_of_row _ w.heap.size 2 _ _ (0, 0) h, cell_of_row _ w.heap.size 3 _ _ (0, 0) h⟩, by simp⟩
/-- a step begins -/
structure Begun (w W : World) (B tb hn gm rb cap : Nat) (ao : Option Addr) (T : List Cal) (C : Cfg) (now bx : Nat) (kind n a : Int) (raw : Bool) : Prop where
  tw : TwinW W B tb hn gm rb cap ao T C now
  box : BoxS bx kind n a raw W
  bel : Below B w W
  size : B ≤ W.heap.size
  nb : bx ≠ tb ∧ bx ≠ hn ∧ bx ≠ gm ∧ bx ≠ rb ∧ bx ∉ blk ao
theorem TwinW.new (h : TwinW w B tb hn gm rb cap ao T C now) : w.heap.size ≠ tb ∧ w.heap.size ≠ hn ∧ w.heap.size ≠ gm ∧ w.heap.size ≠ rb ∧ w.heap.size ∉ blk ao := by
  have h1 := h.tlt; have h2 := h.A.lts; have h3 := h.R.hlt
  refine ⟨by omega, by omega, by omega, by omega, fun hm => ?_⟩
  have := (owns_blk h.R.own _ hm).2; omega
theorem Begun.of (h : TwinW w B tb hn gm rb cap ao T C now) (kind n a : Int) (raw : Bool) : Begun w (w.alloc (sto kind n a raw)) B tb hn gm rb cap ao T C now w.heap.size kind n a raw := by
  have b := below_alloc (Below.refl w.heap.size w) (sto kind n a raw)
  have hB : B ≤ w.heap.size := Nat.le_trans h.base (Nat.le_of_lt h.tlt)
  exact ⟨h.below b, boxsNew w kind n a raw, b.mono hB, Nat.le_trans hB b.size, h.new⟩
theorem Begun.set (h : TwinW w B tb hn gm rb cap ao T C now) (kind n a : Int) (raw : Bool) (x : Nat) (v : Int) (hv : v = (x : Int)) (hx : x ≤ 2199023255552) : Begun w ((w.setCell ⟨tb, 2, none⟩ (.int .i64 v)).alloc (sto kind n a raw)) B tb hn gm rb cap ao T C x w.heap.size kind n a raw := by
  subst hv
  have k := Keep.setCell w ⟨tb, 2, none⟩ (.int .i64 (x : Int))
  have h1 := h.setNow x hx
  have hs : (w.setCell ⟨tb, 2, none⟩ (.int .i64 (x : Int))).heap.size = w.heap.size := by simp [World.setCell]
  have h2 := Begun.of h1 kind n a raw
  rw [hs] at h2
  have hB : B ≤ w.heap.size := Nat.le_trans h.base (Nat.le_of_lt h.tlt)
  exact ⟨h2.tw, h2.box, (k.below hB (by simp; exact h.base)).trans h2.bel, h2.size, h2.nb⟩
/-- the five ways of a step's time -/
def Ways (raw : Bool) (a : Int) (now : Int) : Prop := raw = true ∨ (raw = false ∧ a < 0) ∨ (raw = false ∧ 0 ≤ a ∧ 1099511627776 ≤ a) ∨ (raw = false ∧ 0 ≤ a ∧ a < 1099511627776 ∧ 1099511627776 ≤ now) ∨ (raw = false ∧ 0 ≤ a ∧ a < 1099511627776 ∧ now < 1099511627776)
theorem ways (raw : Bool) (a now : Int) : Ways raw a now := by
  unfold Ways
  cases raw
  · by_cases h1 : a < 0
    · simp [h1]
    · by_cases h2 : a < 1099511627776
      · by_cases h3 : now < 1099511627776 <;> simp [h1, h2, h3] <;> omega
      · simp [h1, h2]; omega
  · simp
/-- both calls after a step -/
theorem TwinW.after {T' : List Cal} {ao' : Option Addr} {cap' : Nat} (h : TwinW w B tb hn gm rb cap ao T C now) (k : Keep (hn :: gm :: rb :: blk ao) w w') (h3 : CalsW w' B hn gm (live T') C T'.length) (h4 : RefW w' B rb ao' cap' T' C)
    (hao : ∀ g ∈ blk ao', g ∈ blk ao ∨ w.heap.size ≤ g) (htr : ∀ x ∈ T', x.tries ≤ C.tries) : TwinW w' B tb hn gm rb cap' ao' T' C now := by
  obtain ⟨a1, a2, a3, a4⟩ := h.t1
  obtain ⟨b1, b2, b3, b4⟩ := h.t2
  have hl := h.tlt; have hls := h.A.lts
  refine ⟨h3, h4, (k.block tb hl (by simp only [List.mem_cons, not_or]; exact ⟨a1, a2, a3, a4⟩)).trans h.row, h.base, ⟨a1, a2, a3, fun hm => ?_⟩, ⟨b1, b2, fun hm => ?_, fun hm => ?_⟩, htr, h.time⟩
  · rcases hao _ hm with h5 | h5
    · exact a4 h5
    · omega
  · rcases hao _ hm with h5 | h5
    · exact b3 h5
    · omega
  · rcases hao _ hm with h5 | h5
    · exact b4 h5
    · omega
theorem TwinW.keepB {W' : World} (h : TwinW w B tb hn gm rb cap ao T C now) (k : Keep (hn :: gm :: rb :: blk ao) w W') : Below B w W' := by
  refine k.below (Nat.le_trans h.base (Nat.le_of_lt h.tlt)) (fun g hg => ?_)
  simp only [List.mem_cons] at hg
  rcases hg with rfl | rfl | rfl | hg
  · exact h.A.base
  · exact h.A.gbase
  · exact h.R.base
  · exact (owns_blk h.R.own _ hg).1
theorem heldKeep {bx : Nat} {n : Int} {U : List Nat} (h : w.cell? ⟨tb, 0, none⟩ = some (.pointer (some ⟨hn, 0, none⟩)) ∧ w.cell? ⟨tb, 1, none⟩ = some (.pointer (some ⟨rb, 0, none⟩)) ∧ w.cell? ⟨bx, 1, none⟩ = some (.int .i64 n) ∧ tb < w.heap.size ∧ bx < w.heap.size) (k : Keep U w w') (h1 : tb ∉ U) (h2 : bx ∉ U) :
    w'.cell? ⟨tb, 0, none⟩ = some (.pointer (some ⟨hn, 0, none⟩)) ∧ w'.cell? ⟨tb, 1, none⟩ = some (.pointer (some ⟨rb, 0, none⟩)) ∧ w'.cell? ⟨bx, 1, none⟩ = some (.int .i64 n) ∧ tb < w'.heap.size ∧ bx < w'.heap.size := by
  obtain ⟨a0, a1, a2, a3, a4⟩ := h
  exact ⟨(k.cell a3 h1).trans a0, (k.cell a3 h1).trans a1, (k.cell a4 h2).trans a2, Nat.lt_of_lt_of_le a3 k.size, Nat.lt_of_lt_of_le a4 k.size⟩
variable {W : World} {bx : Nat} {kind n a : Int} {raw : Bool}
theorem Begun.apA (h : Begun w W B tb hn gm rb cap ao T C now bx kind n a raw) : tb ∉ [hn, gm] ∧ bx ∉ [hn, gm] := by
  obtain ⟨a1, a2, a3, a4⟩ := h.tw.t1
  obtain ⟨b0, b1, b2, b3, b4⟩ := h.nb
  simp [a1, a2, b1, b2]
theorem Begun.apR (h : Begun w W B tb hn gm rb cap ao T C now bx kind n a raw) : tb ∉ rb :: blk ao ∧ bx ∉ rb :: blk ao := by
  obtain ⟨a1, a2, a3, a4⟩ := h.tw.t1
  obtain ⟨b0, b1, b2, b3, b4⟩ := h.nb
  simp [a3, a4, b3, b4]
theorem Begun.drew (W : World) : Below W.heap.size W W.drew := (Below.refl _ _).drew
theorem Begun.ref3 {w3 : World} (h : Begun w W B tb hn gm rb cap ao T C now bx kind n a raw) (k : Keep [hn, gm] W.drew w3) : RefW w3 B rb ao cap T C ∧ B ≤ w3.heap.size := by
  obtain ⟨a1, a2, a3, a4⟩ := h.tw.t1
  obtain ⟨b1, b2, b3, b4⟩ := h.tw.t2
  have hd := Begun.drew W
  have hs := hd.size
  refine ⟨(h.tw.R.below hd).keep k (by simp [b1, b2]) (fun g hg hm => ?_), Nat.le_trans h.size (Nat.le_trans hs k.size)⟩
  simp at hm
  rcases hm with rfl | rfl
  · exact b3 hg
  · exact b4 hg
/-- a step's two calls are over -/
theorem Begun.both {w3 w4 : World} {T' : List Cal} {ao' : Option Addr} {cap' : Nat} (h : Begun w W B tb hn gm rb cap ao T C now bx kind n a raw) (h3 : CalsW w3 B hn gm (live T') C T'.length) (k3 : Keep [hn, gm] W.drew w3)
    (h4 : RefW w4 B rb ao' cap' T' C) (k4 : Keep (rb :: blk ao) w3.drew w4) (hao : ∀ g ∈ blk ao', g ∈ blk ao ∨ w3.drew.heap.size ≤ g) (htr : ∀ x ∈ T', x.tries ≤ C.tries) :
    TwinW w4 B tb hn gm rb cap' ao' T' C now ∧ Below B w w4 := by
  obtain ⟨b1, b2, b3, b4⟩ := h.tw.t2
  have hd := Begun.drew W
  have hd3 := Begun.drew w3
  have kk : Keep (hn :: gm :: rb :: blk ao) W w4 := by
    refine (Keep.of_below hd _).trans ((k3.mono fun g hg => .inl ?_).trans ((Keep.of_below hd3 _).trans (k4.mono fun g hg => .inl ?_)))
    · simp at hg ⊢; rcases hg with rfl | rfl <;> simp
    · simp only [List.mem_cons] at hg ⊢; rcases hg with rfl | hg <;> simp_all
  have hs := hd.size; have hs3 := hd3.size; have hk3 := k3.size
  refine ⟨h.tw.after kk ((h3.below hd3).keep k4 ?_ ?_) h4 (fun g hg => ?_) htr, h.bel.trans (h.tw.keepB kk)⟩
  · simp only [List.mem_cons, not_or]; exact ⟨fun e => b1 e.symm, b3⟩
  · simp only [List.mem_cons, not_or]; exact ⟨fun e => b2 e.symm, b4⟩
  · rcases hao g hg with h5 | h5
    · exact .inl h5
    · exact .inr (by omega)
end
end Go.Proofs.Ytjhdlohcjodgjaa
