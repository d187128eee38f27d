/- The table of layer 14 as plain data, and as a row in a block. -/
import Derived.Test.YtikeiocgnjdhbaaOfa
import Derived.Deep.WholeRow
namespace Go.Proofs.Ytikeiocgnjdhbaa
open Go.RowKit Go.Sort
set_option linter.unusedVariables false
set_option linter.unusedSimpArgs false

/-- a table: version, owners, incarnations, members, renewals -/
structure Tb where
  ver : Int
  own : List Int
  inc : List Int
  mem : List Bool
  ren : List Int

namespace Tb
/-- the rows have the lengths that the type says -/
structure Sz (T : Tb) : Prop where
  o : T.own.length = 64
  i : T.inc.length = 64
  m : T.mem.length = 12
  r : T.ren.length = 12
def list (T : Tb) : List Value := .int .u32 T.ver :: (T.own.map (Value.int .i64) ++ (T.inc.map (Value.int .u32) ++ (T.mem.map Value.bool ++ T.ren.map (Value.int .u32))))
def o (T : Tb) (p : Nat) : Int := T.own.getD p 0
def i (T : Tb) (p : Nat) : Int := T.inc.getD p 0
def m (T : Tb) (n : Nat) : Bool := T.mem.getD n false
def r (T : Tb) (n : Nat) : Int := T.ren.getD n 0
def zero : Tb := ⟨0, List.replicate 64 0, List.replicate 64 0, List.replicate 12 false, List.replicate 12 0⟩
theorem Sz.len {T : Tb} (h : T.Sz) : T.list.length = 153 := by
  simp [list, h.o, h.i, h.m, h.r]
theorem at_ver (T : Tb) : T.list[0]? = some (.int .u32 T.ver) := rfl
theorem Sz.at_own {T : Tb} (h : T.Sz) {p : Nat} (hp : p < 64) : T.list[1 + p]? = some (.int .i64 (T.o p)) := by
  have := h.o
  rw [Nat.add_comm]
  simp [list, Tb.o, List.getD, List.getElem?_append, List.getElem?_cons_succ, show p < T.own.length by omega]
theorem Sz.at_inc {T : Tb} (h : T.Sz) {p : Nat} (hp : p < 64) : T.list[65 + p]? = some (.int .u32 (T.i p)) := by
  have h1 := h.o; have h2 := h.i
  rw [show 65 + p = (64 + p) + 1 by omega]
  simp [list, Tb.i, List.getD, List.getElem?_append, List.getElem?_cons_succ, h1, show ¬ 64 + p < 64 by omega, show p < T.inc.length by omega]
theorem Sz.at_mem {T : Tb} (h : T.Sz) {n : Nat} (hn : n < 12) : T.list[129 + n]? = some (.bool (T.m n)) := by
  have h1 := h.o; have h2 := h.i; have h3 := h.m
  rw [show 129 + n = (128 + n) + 1 by omega]
  simp [list, Tb.m, List.getD, List.getElem?_append, List.getElem?_cons_succ, h1, h2, show ¬ 128 + n < 64 by omega, show ¬ 128 + n - 64 < 64 by omega, show 128 + n - 64 - 64 = n by omega, show n < T.mem.length by omega]
theorem Sz.at_ren {T : Tb} (h : T.Sz) {n : Nat} (hn : n < 12) : T.list[141 + n]? = some (.int .u32 (T.r n)) := by
  have h1 := h.o; have h2 := h.i; have h3 := h.m; have h4 := h.r
  rw [show 141 + n = (140 + n) + 1 by omega]
  simp [list, Tb.r, List.getD, List.getElem?_append, List.getElem?_cons_succ, h1, h2, h3, show ¬ 140 + n < 64 by omega, show ¬ 140 + n - 64 < 64 by omega, show ¬ 140 + n - 64 - 64 < 12 by omega, show 140 + n - 64 - 64 - 12 = n by omega, show n < T.ren.length by omega]

abbrev setVer (T : Tb) (x : Int) : Tb := ⟨x, T.own, T.inc, T.mem, T.ren⟩
abbrev setOwn (T : Tb) (p : Nat) (x : Int) : Tb := ⟨T.ver, T.own.set p x, T.inc, T.mem, T.ren⟩
abbrev setInc (T : Tb) (p : Nat) (x : Int) : Tb := ⟨T.ver, T.own, T.inc.set p x, T.mem, T.ren⟩
abbrev setMem (T : Tb) (n : Nat) (x : Bool) : Tb := ⟨T.ver, T.own, T.inc, T.mem.set n x, T.ren⟩
abbrev setRen (T : Tb) (n : Nat) (x : Int) : Tb := ⟨T.ver, T.own, T.inc, T.mem, T.ren.set n x⟩
theorem Sz.setVer {T : Tb} (h : T.Sz) (x : Int) : (T.setVer x).Sz := ⟨h.o, h.i, h.m, h.r⟩
theorem Sz.setOwn {T : Tb} (h : T.Sz) (p : Nat) (x : Int) : (T.setOwn p x).Sz := ⟨by simp [h.o], h.i, h.m, h.r⟩
theorem Sz.setInc {T : Tb} (h : T.Sz) (p : Nat) (x : Int) : (T.setInc p x).Sz := ⟨h.o, by simp [h.i], h.m, h.r⟩
theorem Sz.setMem {T : Tb} (h : T.Sz) (p : Nat) (x : Bool) : (T.setMem p x).Sz := ⟨h.o, h.i, by simp [h.m], h.r⟩
theorem Sz.setRen {T : Tb} (h : T.Sz) (p : Nat) (x : Int) : (T.setRen p x).Sz := ⟨h.o, h.i, h.m, by simp [h.r]⟩
theorem zero_sz : zero.Sz := ⟨rfl, rfl, rfl, rfl⟩
theorem list_ver (T : Tb) (x : Int) : (T.setVer x).list = T.list.set 0 (.int .u32 x) := rfl
theorem Sz.list_own {T : Tb} (h : T.Sz) {p : Nat} (hp : p < 64) (x : Int) : (T.setOwn p x).list = T.list.set (1 + p) (.int .i64 x) := by
  rw [Nat.add_comm]
  simp [list, List.set_append, List.map_set, h.o, hp]
theorem Sz.list_inc {T : Tb} (h : T.Sz) {p : Nat} (hp : p < 64) (x : Int) : (T.setInc p x).list = T.list.set (65 + p) (.int .u32 x) := by
  rw [show 65 + p = (64 + p) + 1 by omega]
  simp [list, List.set_append, List.map_set, h.o, h.i, hp]
theorem Sz.list_mem {T : Tb} (h : T.Sz) {p : Nat} (hp : p < 12) (x : Bool) : (T.setMem p x).list = T.list.set (129 + p) (.bool x) := by
  rw [show 129 + p = (128 + p) + 1 by omega]
  simp [list, List.set_append, List.map_set, h.o, h.i, h.m, hp, show ¬ 128 + p < 64 by omega, show ¬ 128 + p - 64 < 64 by omega, show 128 + p - 64 - 64 = p by omega]
theorem Sz.list_ren {T : Tb} (h : T.Sz) {p : Nat} (hp : p < 12) (x : Int) : (T.setRen p x).list = T.list.set (141 + p) (.int .u32 x) := by
  rw [show 141 + p = (140 + p) + 1 by omega]
  simp [list, List.set_append, List.map_set, h.o, h.i, h.m, h.r, hp, show ¬ 140 + p < 64 by omega, show ¬ 140 + p - 64 < 64 by omega, show ¬ 140 + p - 64 - 64 < 12 by omega, show 140 + p - 64 - 64 - 12 = p by omega]
end Tb

/-- block b holds the table T -/
def TbR (w : World) (b : Nat) (T : Tb) : Prop := w.heap[b]? = some (.cells ⟨T.list⟩ 29 (0, 0))
section
variable {w w' : World} {b : Nat} {T : Tb}
theorem TbR.lt (h : TbR w b T) : b < w.heap.size := (Array.getElem?_eq_some_iff.1 h).1
theorem TbR.at_ (h : TbR w b T) (i : Nat) : w.cell? ⟨b, i, none⟩ = T.list[i]? := (cell_of_row w b i _ _ (0, 0) h).trans (by simp)
theorem TbR.ver (h : TbR w b T) : w.cell? ⟨b, 0, none⟩ = some (.int .u32 T.ver) := (h.at_ 0).trans T.at_ver
theorem TbR.own (h : TbR w b T) (s : T.Sz) {p : Nat} (hp : p < 64) : w.cell? ⟨b, 1 + p, none⟩ = some (.int .i64 (T.o p)) := (h.at_ _).trans (s.at_own hp)
theorem TbR.inc (h : TbR w b T) (s : T.Sz) {p : Nat} (hp : p < 64) : w.cell? ⟨b, 65 + p, none⟩ = some (.int .u32 (T.i p)) := (h.at_ _).trans (s.at_inc hp)
theorem TbR.mem (h : TbR w b T) (s : T.Sz) {p : Nat} (hp : p < 12) : w.cell? ⟨b, 129 + p, none⟩ = some (.bool (T.m p)) := (h.at_ _).trans (s.at_mem hp)
theorem TbR.ren (h : TbR w b T) (s : T.Sz) {p : Nat} (hp : p < 12) : w.cell? ⟨b, 141 + p, none⟩ = some (.int .u32 (T.r p)) := (h.at_ _).trans (s.at_ren hp)
theorem TbR.fr (h : TbR w b T) (i : Nat) : w.frozen? ⟨b, i, none⟩ = false := frozen_of_row w b i _ _ h
theorem TbR.below {B : Nat} (h : TbR w b T) (hb : Below B w w') (hg : b < B) : TbR w' b T := (hb.block b hg).trans h
theorem TbR.keep (h : TbR w b T) (hb : Below w.heap.size w w') : TbR w' b T := h.below hb h.lt
theorem TbR.alloc (h : TbR w b T) (o : Obj) : TbR (w.alloc o) b T := h.keep (below_alloc (Below.refl _ _) o)
theorem TbR.new (w : World) (T : Tb) : TbR (w.alloc (.cells ⟨T.list⟩ 29)) w.heap.size T := heap_alloc_new w _
theorem TbR.other (h : TbR w b T) (a : Addr) (v : Value) (hn : a.block ≠ b) : TbR (w.setCell a v) b T := by
  unfold TbR
  obtain ⟨g, i, s⟩ := a
  have : (w.setCell ⟨g, i, s⟩ v).heap[b]? = w.heap[b]? := heap_setCell_other w _ _ _ (by simpa using fun h => hn h.symm)
  rw [this]; exact h
theorem TbR.setVer (h : TbR w b T) (x : Int) : TbR (w.setCell ⟨b, 0, none⟩ (.int .u32 x)) b (T.setVer x) := by
  unfold TbR; rw [heap_setCell_same w b 0 _ _ _ h, T.list_ver]; rfl
theorem TbR.setOwn (h : TbR w b T) (s : T.Sz) {p : Nat} (hp : p < 64) (x : Int) : TbR (w.setCell ⟨b, 1 + p, none⟩ (.int .i64 x)) b (T.setOwn p x) := by
  unfold TbR; rw [heap_setCell_same w b (1 + p) _ _ _ h, s.list_own hp]; simp
theorem TbR.setInc (h : TbR w b T) (s : T.Sz) {p : Nat} (hp : p < 64) (x : Int) : TbR (w.setCell ⟨b, 65 + p, none⟩ (.int .u32 x)) b (T.setInc p x) := by
  unfold TbR; rw [heap_setCell_same w b (65 + p) _ _ _ h, s.list_inc hp]; simp
theorem TbR.setMem (h : TbR w b T) (s : T.Sz) {p : Nat} (hp : p < 12) (x : Bool) : TbR (w.setCell ⟨b, 129 + p, none⟩ (.bool x)) b (T.setMem p x) := by
  unfold TbR; rw [heap_setCell_same w b (129 + p) _ _ _ h, s.list_mem hp]; simp
theorem TbR.setRen (h : TbR w b T) (s : T.Sz) {p : Nat} (hp : p < 12) (x : Int) : TbR (w.setCell ⟨b, 141 + p, none⟩ (.int .u32 x)) b (T.setRen p x) := by
  unfold TbR; rw [heap_setCell_same w b (141 + p) _ _ _ h, s.list_ren hp]; simp
theorem TbR.range (h : TbR w b T) : w.rangeAt b 0 T.list := fun j v hv => by
  rw [Nat.zero_add, h.at_ j]; exact hv
theorem TbR.load (h : TbR w b T) (s : T.Sz) : (Instr.loadAt 29 (.pointer (some ⟨b, 0, none⟩))).run Try.prog w = .ok (.agg ⟨T.list⟩) w :=
  run_loadAt_mid w b 0 29 T.list _ h.range Try.underlying29 rfl (by rw [s.len]; kernel_rfl)
theorem TbR.var (h : TbR w b T) (s : T.Sz) : (loadVar 29 ⟨b, 0, none⟩).run Try.prog w = .ok (.agg ⟨T.list⟩) w :=
  run_loadVar_mid w b 0 29 T.list _ h.range Try.underlying29 rfl (by rw [s.len]; kernel_rfl)
theorem TbR.setRow (h : TbR w b T) (U : Tb) : TbR (w.setRow b ⟨U.list⟩) b U := setRow_heap w b _ ⟨U.list⟩ _ _ h
end
theorem tb_one (T : Tb) : (⟨T.list⟩ : Array Value).all (·.oneCell') = true := by
  refine Array.all_eq_true_iff_forall_mem.2 (fun v hv => ?_)
  simp [Tb.list] at hv
  rcases hv with rfl | ⟨_, _, rfl⟩ | ⟨_, _, rfl⟩ | hv | ⟨_, _, rfl⟩
  · rfl
  · rfl
  · rfl
  · rcases hv with ⟨_, rfl⟩ | ⟨_, rfl⟩ <;> rfl
  · rfl
end Go.Proofs.Ytikeiocgnjdhbaa
