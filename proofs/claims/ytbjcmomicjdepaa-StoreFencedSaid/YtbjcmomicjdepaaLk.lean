/- Locks in boxes: cloneLock, isLock, conflict, what the closures tell. -/
import Derived.Test.YtbjcmomicjdepaaCe
namespace Go.Proofs.Ytbjcmomicjdepaa
open Go.RowKit Go.Sort
set_option linter.unusedVariables false
set_option linter.unusedSimpArgs false
set_option maxRecDepth 100000

/-- a lock in a block of its own -/
def LkB (w : World) (b : Nat) (l : Lk) (s : Sd) : Prop := w.heap[b]? = some (.cells ⟨l.list s⟩ 38 (0, 0))
section
variable {w w' : World} {b : Nat} {l : Lk} {s : Sd}
theorem LkB.new (w : World) (l : Lk) (s : Sd) : LkB (w.alloc (.cells (l.cells s) 38)) w.heap.size l s := heap_alloc_new w _
theorem LkB.keep {U : List Nat} (h : LkB w b l s) (k : Keep U w w') (hn : b ∉ U) : LkB w' b l s := row_keep h k hn
theorem LkB.below (h : LkB w b l s) (k : Below w.heap.size w w') : LkB w' b l s := row_keep h (Keep.of_below k []) (by simp)
theorem LkB.lt (h : LkB w b l s) : b < w.heap.size := (Array.getElem?_eq_some_iff.1 h).1
theorem LkB.range (h : LkB w b l s) : w.rangeAt b 0 (l.list s) := fun j v hv => by
  rw [Nat.zero_add, cell_of_row w b j _ _ (0, 0) h]; simpa using hv
theorem LkB.there (h : LkB w b l s) : w.there b 0 12 := fun j hj => by
  rw [Nat.zero_add]
  refine ⟨?_, frozen_of_row w b j _ _ h⟩
  rw [cell_of_row w b j _ _ (0, 0) h]
  have : j < (Lk.list l s).length := hj
  simp [this]
  exact hj
theorem LkB.fr (h : LkB w b l s) (i : Nat) : w.frozen? ⟨b, i, none⟩ = false := frozen_of_row w b i _ _ h
theorem LkB.all (h : LkB w b l s) : w.cell? ⟨b, 0, none⟩ = some (.int .u64 l.tx) ∧ w.cell? ⟨b, 1, none⟩ = some (.int .i64 l.m0) ∧ w.cell? ⟨b, 2, none⟩ = some (.int .i64 l.m1) ∧ w.cell? ⟨b, 3, none⟩ = some (.int .i64 l.m2) ∧ w.cell? ⟨b, 4, none⟩ = some (.int .i64 l.it.bucket) ∧ w.cell? ⟨b, 5, none⟩ = some (.int .u32 l.it.ver) ∧ w.cell? ⟨b, 6, none⟩ = some (.bool l.it.write) ∧ w.cell? ⟨b, 7, none⟩ = some (.slice s.ao l.it.es.length s.cap) ∧ w.cell? ⟨b, 8, none⟩ = some (.int .u32 l.it.i0) ∧ w.cell? ⟨b, 9, none⟩ = some (.int .u32 l.it.i1) ∧ w.cell? ⟨b, 10, none⟩ = some (.int .u32 l.it.i2) ∧ w.cell? ⟨b, 11, none⟩ = some (.int .u32 l.it.i3) :=
  ⟨cell_of_row w b 0 _ _ (0, 0) h, cell_of_row w b 1 _ _ (0, 0) h, cell_of_row w b 2 _ _ (0, 0) h, cell_of_row w b 3 _ _ (0, 0) h, cell_of_row w b 4 _ _ (0, 0) h, cell_of_row w b 5 _ _ (0, 0) h, cell_of_row w b 6 _ _ (0, 0) h, cell_of_row w b 7 _ _ (0, 0) h, cell_of_row w b 8 _ _ (0, 0) h, cell_of_row w b 9 _ _ (0, 0) h, cell_of_row w b 10 _ _ (0, 0) h, cell_of_row w b 11 _ _ (0, 0) h⟩
theorem LkB.c (h : LkB w b l s) (i : Nat) (v : Value) (hv : (l.list s)[i]? = some v) : w.cell? ⟨b, i, none⟩ = some v := by
  rw [cell_of_row w b i _ _ (0, 0) h]; simpa using hv
theorem lk_size (l : Lk) (s : Sd) : (Try.prog.info? 38).map (·.size) = some (l.list s).length := by
  show _ = some 12
  kernel_rfl
theorem lk_ones (l : Lk) (s : Sd) : (Array.mk (l.list s)).all (·.oneCell') = true := by
  refine Array.all_eq_true_iff_forall_mem.2 fun v hv => lk_one (l, s) v ?_
  simpa using hv
/-- a slice is laid into the box -/
theorem LkB.set7 (h : LkB w b l s) (t : Sd) : LkB (w.setCell ⟨b, 7, none⟩ (.slice t.ao l.it.es.length t.cap)) b l t := (heap_setCell_same w b 7 _ _ _ h).trans rfl
theorem LkB.laid {l0 : Lk} {s0 : Sd} (h : LkB w b l0 s0) : LkB (w.setCells b 0 (l.list s)) b l s := by
  have := heap_lay b _ (l.list s) 0 w _ h
  rwa [lay_all _ _ (by rfl)] at this
theorem res_c1 {P : Program} {fn : Func} {t : Tmp} {u : TypeId} {tmps : Array Value} {w : World} {ad : Addr} {v : Value} (h : fn.results = #[.cell t u]) (ht : tmps.getD t undef = .pointer (some ad))
    (hl : (loadVar u ad).run P w = .ok v w) : (results fn tmps).run P w = .ok v w := by
  have ht' : tmps[t]?.getD undef = .pointer (some ad) := by simpa using ht
  simp [results, h, ht', hl, asAddr]
theorem res_c1t1 {P : Program} {fn : Func} {t s : Tmp} {u : TypeId} {tmps : Array Value} {w : World} {ad : Addr} {v x : Value} (h : fn.results = #[.cell t u, .tmp s]) (ht : tmps.getD t undef = .pointer (some ad))
    (hl : (loadVar u ad).run P w = .ok v w) (hx : tmps.getD s undef = x) : (results fn tmps).run P w = .ok (.tuple #[v, x]) w := by
  have ht' : tmps[t]?.getD undef = .pointer (some ad) := by simpa using ht
  have hx' : tmps[s]?.getD undef = x := by simpa using hx
  simp [results, h, ht', hl, asAddr, hx']
theorem LkB.load (h : LkB w b l s) : (loadVar 38 ⟨b, 0, none⟩).run Try.prog w = .ok (l.ag s) w :=
  run_loadVar_mid w b 0 _ (l.list s) _ h.range Try.underlying38 rfl (lk_size l s)
abbrev l0 : Lk := ⟨0, 0, 0, 0, ⟨0, 0, false, [], 0, 0, 0, 0⟩⟩
theorem LkB.zero (w : World) : LkB (w.alloc (.cells #[.int .u64 0, .int .i64 0, .int .i64 0, .int .i64 0, .int .i64 0, .int .u32 0, .bool false, .slice none 0 0, .int .u32 0, .int .u32 0, .int .u32 0, .int .u32 0] 38)) w.heap.size l0 ⟨none, 0⟩ := heap_alloc_new w _
set_option maxHeartbeats 4000000 in
theorem clonelock_any (w : World) (h : EsR w s l.it.es) (f : Fit l.it.es) :
    Calls Try.prog 46 #[l.ag s] w fun e w' => ∃ t : Sd, e = .returned (l.ag t) ∧ EsO w' w.heap.size t l.it.es ∧ Below w.heap.size w w' := by
  obtain ⟨W, hW⟩ : ∃ W, W = (w.alloc (.cells (l.cells s) 38)).alloc (.cells #[.int .u64 0, .int .i64 0, .int .i64 0, .int .i64 0, .int .i64 0, .int .u32 0, .bool false, .slice none 0 0, .int .u32 0, .int .u32 0, .int .u32 0, .int .u32 0] 38) := ⟨_, rfl⟩
  have bW : Below w.heap.size w W := by rw [hW]; exact below_alloc (below_alloc (Below.refl _ _) _) _
  have hz : W.heap.size = w.heap.size + 2 := by rw [hW]; simp
  have k1 : LkB W w.heap.size l s := by rw [hW]; exact (LkB.new w l s).below (below_alloc (Below.refl _ _) _)
  have k2 : LkB W (w.heap.size + 1) l0 ⟨none, 0⟩ := by
    have := LkB.zero (w.alloc (.cells (l.cells s) 38))
    rw [← hW, show (w.alloc (.cells (l.cells s) 38)).heap.size = w.heap.size + 1 by simp] at this; exact this
  have C := Lib.hid (ce_any W s l.it.es (h.below bW) f)
  have K1 := Lib.hid k1; have K2 := Lib.hid k2; have BW := Lib.hid bW; have HZ := Lib.hid hz
  have x7 := k1.c 7 _ rfl
  clear h f k1 k2 bW hz
  obtain ⟨tx, m0, m1, m2, ⟨bk, ver, wt, es, i0, i1, i2, i3⟩⟩ := l
  obtain ⟨ao, cap⟩ := s
  simp only [Lk.ag, Lk.cells] at hW x7 C ⊢
  go_enter Try.func46, Try.ntmps46
  go_upto_region 1 with (fail)
  rw [← hW]
  clear hW
  generalize hbi : w.heap.size = bi at x7 K1 K2 HZ ⊢
  go_wp2_with fail
  refine C.out.mono ?_; rintro e w1 ⟨t, rfl, o1, b1⟩
  have q1 := K1.out.below b1
  have K3 := Lib.hid (q1.set7 t)
  have kk := Keep.setCell w1 ⟨bi, 7, none⟩ (.slice t.ao es.length t.cap)
  have K4 := Lib.hid ((K2.out.below b1).keep kk (by simp))
  have hl1 := b1.size
  have O1 := Lib.hid (EsO.keep (s := t) o1 kk (fun g hg => by
    have := (EsO.blk (s := t) o1 g hg).1
    have := HZ.out
    simp; omega))
  have BB := Lib.hid ((BW.out.trans (b1.mono (by have := HZ.out; omega))).trans (kk.below (B := w.heap.size) (by have := HZ.out; omega) (by simp [hbi])))
  have f7 := q1.fr 7
  have y7 := q1.c 7 _ rfl
  clear q1 kk o1 b1 x7 C K1 K2
  obtain ⟨ta, tc⟩ := t
  simp only at K3 K4 O1 BB
  go_upto_region 2 with (fail)
  clear y7 f7
  generalize w1.setCell ⟨bi, 7, none⟩ (.slice ta es.length tc) = w2 at *
  have K5 := Lib.hid (LkB.laid K4.out (l := ⟨tx, m0, m1, m2, ⟨bk, ver, wt, es, i0, i1, i2, i3⟩⟩) (s := ⟨ta, tc⟩))
  have TH := Lib.hid (LkB.there K4.out)
  have RG := Lib.hid (LkB.range K3.out)
  have kk := Lib.hid (keep_setCells (bi + 1) (Lk.list ⟨tx, m0, m1, m2, ⟨bk, ver, wt, es, i0, i1, i2, i3⟩⟩ ⟨ta, tc⟩) 0 w2)
  go_wp2_with (first
    | (refine wpList_load_mid rfl 38 (.tmp 1) rfl bi 0 rfl (Lk.list ⟨tx, m0, m1, m2, ⟨bk, ver, wt, es, i0, i1, i2, i3⟩⟩ ⟨ta, tc⟩) _ RG.out Try.underlying38 rfl (lk_size _ _) ?_)
    | (refine wpList_store_mid rfl 38 (.tmp 2) (.tmp 9) rfl (bi + 1) 0 ⟨Lk.list ⟨tx, m0, m1, m2, ⟨bk, ver, wt, es, i0, i1, i2, i3⟩⟩ ⟨ta, tc⟩⟩ rfl rfl TH.out (lk_size _ _) (lk_ones _ _) ?_))
  refine bodyPost_ret (res_c1 Try.results46 rfl (LkB.load K5.out)) rfl ⟨⟨ta, tc⟩, rfl, ?_, ?_⟩
  · have := HZ.out
    refine EsO.base (EsO.keep (s := ⟨ta, tc⟩) O1.out kk.out (fun g hg => ?_)) (by omega)
    have := (EsO.blk (s := ⟨ta, tc⟩) O1.out g hg).1
    simp; omega
  · exact BB.out.trans (kk.out.below BB.out.size (by simp; omega))
end
end Go.Proofs.Ytbjcmomicjdepaa
