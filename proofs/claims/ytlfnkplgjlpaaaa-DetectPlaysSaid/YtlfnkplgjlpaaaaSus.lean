/- A node's suspected, judged, heard. -/
import Derived.Test.YtlfnkplgjlpaaaaNum
namespace Go.Proofs.Ytlfnkplgjlpaaaa
open Go.RowKit Go.Sort
set_option linter.unusedVariables false

abbrev Ret (n : Nat) (xs : Array Value) (r : Ending) : Prop := ∀ w, Calls Try.prog n xs w fun e w' => e = r ∧ Below w.heap.size w w'
theorem Ret.re {n : Nat} {xs : Array Value} {v : Value} (h : Ret n xs (.returned v)) (w : World) (d : Nat) (os : Array Obj) :
    Calls Try.prog n xs (grow (redrawn w d) os) fun e w'' => e = .returned v ∧ ∃ p : Regrown, w'' = grow (redrawn w p.d) p.os := Calls.regrown_of (h _)
theorem results_cell1 {P : Program} {fn : Func} {t : Tmp} {u : TypeId} {tmps : Array Value} {w : World} {ad : Addr} {v : Value} (h : fn.results = #[.cell t u]) (ht : tmps.getD t undef = .pointer (some ad))
    (hl : (loadVar u ad).run P w = .ok v w) : (results fn tmps).run P w = .ok v w := by
  have ht' : tmps[t]?.getD undef = .pointer (some ad) := by simpa using ht
  simp [results, h, ht', hl, asAddr]
theorem results_cell_tmp {P : Program} {fn : Func} {t s : Tmp} {u : TypeId} {tmps : Array Value} {w : World} {ad : Addr} {v x : Value} (h : fn.results = #[.cell t u, .tmp s]) (ht : tmps.getD t undef = .pointer (some ad))
    (hl : (loadVar u ad).run P w = .ok v w) (hx : tmps.getD s undef = x) : (results fn tmps).run P w = .ok (.tuple #[v, x]) w := by
  have ht' : tmps[t]?.getD undef = .pointer (some ad) := by simpa using ht
  have hx' : tmps[s]?.getD undef = x := by simpa using hx
  simp [results, h, ht', hl, asAddr, hx']
/-- a block of four cells -/
abbrev Row4 (w : World) (bx : Nat) (c0 c1 c2 c3 : Value) : Prop := w.heap[bx]? = some (.cells #[c0, c1, c2, c3] 76 (0, 0))
theorem Row4.all {w : World} {bx : Nat} {c0 c1 c2 c3 : Value} (h : Row4 w bx c0 c1 c2 c3) : w.cell? ⟨bx, 0, none⟩ = some c0 ∧ w.cell? ⟨bx, 1, none⟩ = some c1 ∧ w.cell? ⟨bx, 2, none⟩ = some c2 ∧ w.cell? ⟨bx, 3, none⟩ = some c3 ∧
    w.frozen? ⟨bx, 0, none⟩ = false ∧ w.frozen? ⟨bx, 1, none⟩ = false ∧ w.frozen? ⟨bx, 2, none⟩ = false ∧ w.frozen? ⟨bx, 3, none⟩ = false ∧ bx < w.heap.size :=
  ⟨cell_of_row w bx 0 _ _ (0, 0) h, cell_of_row w bx 1 _ _ (0, 0) h, cell_of_row w bx 2 _ _ (0, 0) h, cell_of_row w bx 3 _ _ (0, 0) h, frozen_of_row w bx 0 _ _ h, frozen_of_row w bx 1 _ _ h, frozen_of_row w bx 2 _ _ h, frozen_of_row w bx 3 _ _ h, (Array.getElem?_eq_some_iff.1 h).1⟩
theorem Row4.below {w w' : World} {bx : Nat} {c0 c1 c2 c3 : Value} (h : Row4 w bx c0 c1 c2 c3) (b : Below w.heap.size w w') : Row4 w' bx c0 c1 c2 c3 := (b.block bx (Array.getElem?_eq_some_iff.1 h).1).trans h
theorem Row4.keep {w w' : World} {bx : Nat} {c0 c1 c2 c3 : Value} {T : List Nat} (h : Row4 w bx c0 c1 c2 c3) (k : Keep T w w') (hn : bx ∉ T) : Row4 w' bx c0 c1 c2 c3 := (k.block bx (Array.getElem?_eq_some_iff.1 h).1 hn).trans h
theorem Row4.new (w : World) (c0 c1 c2 c3 : Value) : Row4 (w.alloc (.cells #[c0, c1, c2, c3] 76)) w.heap.size c0 c1 c2 c3 := heap_alloc_new w _
theorem Row4.set {w : World} {bx : Nat} {c0 c1 c2 c3 : Value} (h : Row4 w bx c0 c1 c2 c3) (v : Value) : Row4 (w.setCell ⟨bx, 0, none⟩ v) bx v c1 c2 c3 ∧ Row4 (w.setCell ⟨bx, 1, none⟩ v) bx c0 v c2 c3 ∧ Row4 (w.setCell ⟨bx, 2, none⟩ v) bx c0 c1 v c3 ∧ Row4 (w.setCell ⟨bx, 3, none⟩ v) bx c0 c1 c2 v :=
  ⟨heap_setCell_same w bx 0 _ _ _ h, heap_setCell_same w bx 1 _ _ _ h, heap_setCell_same w bx 2 _ _ _ h, heap_setCell_same w bx 3 _ _ _ h⟩
abbrev lay4 (w : World) (bx : Nat) (c0 c1 c2 c3 : Value) : World := (((w.setCell ⟨bx, 0, none⟩ c0).setCell ⟨bx, 1, none⟩ c1).setCell ⟨bx, 2, none⟩ c2).setCell ⟨bx, 3, none⟩ c3
theorem lay4_keep (w : World) (bx : Nat) (c0 c1 c2 c3 : Value) : Keep [bx] w (lay4 w bx c0 c1 c2 c3) :=
  (((Keep.setCell w ⟨bx, 0, none⟩ c0).trans (Keep.setCell _ ⟨bx, 1, none⟩ c1)).trans (Keep.setCell _ ⟨bx, 2, none⟩ c2)).trans (Keep.setCell _ ⟨bx, 3, none⟩ c3)
theorem node_cells {w w' : World} {n : Nd} (b : Below (w.alloc (nobj n)).heap.size (w.alloc (nobj n)) w') (i : Nat) (v : Value) (hv : n.cells[i]? = some v) : w'.cell? ⟨w.heap.size, i, none⟩ = some v := by
  rw [b.cell (by simp), nobj_at, hv]
set_option maxRecDepth 10000 in
set_option maxHeartbeats 1600000 in
theorem susp_any (n : Nd) (h : n.Ok) {now : Nat} (hn : now ≤ 1099511627776) (w : World) : Calls Try.prog 34 #[agv n, .int .i64 (now : Int)] w fun e w' => e = .returned (.bool (n.susp now)) ∧ Below w.heap.size w w' := by
  have C1 := Lib.hid (show Ret _ _ _ from fun w => silence_any n h hn w)
  have C2 := Lib.hid (show Ret _ _ _ from fun w => wait_any n h w)
  unfold Nd.susp
  generalize n.wait = wt at *
  generalize n.sil now = sl at *
  have hW : Below w.heap.size w (w.alloc (nobj n)) := below_alloc (Below.refl _ _) _
  have k := fun i v => node_cells (Below.refl _ (w.alloc (nobj n))) i v
  have k0 := k 0 _ rfl; have k1 := k 1 _ rfl; have k2 := k 2 _ rfl; have k3 := k 3 _ rfl
  clear k
  obtain ⟨id, last, mean, marg, bad⟩ := n
  go_enter Try.func34, Try.ntmps34
  go_wp2_with fail
  simp only [nobj, Nd.cells] at k0 k1 k2 k3 hW
  generalize w.alloc (.cells #[.int .i64 (last : Int), .int .i64 (mean : Int), .int .i64 (marg : Int), .bool bad] 76) = W at *
  have k0 := cell_regrown k0
  have k1 := cell_regrown k1
  have k2 := cell_regrown k2
  have k3 := cell_regrown k3
  refine wp_region_quiet_below (by kernel_rfl) (by kernel_rfl) ?_
  repeat (go_big_quiet_step (first | exact C1.out.re _ _ _ | exact C2.out.re _ _ _))
  refine wpQuiet_nil ?_
  intro _ hw'
  obtain ⟨⟨dq, osq⟩, hw''⟩ := hw'
  subst hw''
  have lk := below_regrown W dq osq
  go_wp2_with fail
  go_ret
  exact ⟨rfl, below_next hW lk⟩
set_option maxRecDepth 10000 in
set_option maxHeartbeats 1600000 in
theorem judged_any (n : Nd) (h : n.Ok) {now : Nat} (hn : now ≤ 1099511627776) (w : World) : Calls Try.prog 38 #[agv n, .int .i64 (now : Int)] w fun e w' => e = .returned (agv (n.judged now)) ∧ Below w.heap.size w w' := by
  have C1 := Lib.hid (show Ret _ _ _ from fun w => susp_any n h hn w)
  unfold Nd.judged
  generalize n.susp now = b at *
  obtain ⟨id, last, mean, marg, bad⟩ := n
  have r1 := Row4.new w (.int .i64 (last : Int)) (.int .i64 (mean : Int)) (.int .i64 (marg : Int)) (.bool bad)
  have r2 := Row4.new (w.alloc (.cells #[.int .i64 (last : Int), .int .i64 (mean : Int), .int .i64 (marg : Int), .bool bad] 76)) (.int .i64 0) (.int .i64 0) (.int .i64 0) (.bool false)
  have r1 := r1.below (below_alloc (Below.refl _ _) (.cells zcells 76))
  have R1 := Lib.hid r1; have R2 := Lib.hid r2
  have HB := Lib.hid (below_alloc (below_alloc (Below.refl w.heap.size w) (.cells #[.int .i64 (last : Int), .int .i64 (mean : Int), .int .i64 (marg : Int), .bool bad] 76)) (.cells zcells 76))
  clear r1 r2
  go_enter Try.func38, Try.ntmps38
  go_wp2_with fail
  refine (C1.out _).mono ?_; rintro e w1 ⟨rfl, b1⟩
  obtain ⟨c0, c1, c2, c3, f0, f1, f2, f3, l1⟩ := (R1.out.below b1).all
  obtain ⟨d0, d1, d2, d3, g0, g1, g2, g3, l2⟩ := (R2.out.below b1).all
  have HB1 := Lib.hid (below_next HB.out b1)
  clear R1 R2 b1
  rw [show (w.alloc (.cells #[.int .i64 (last : Int), .int .i64 (mean : Int), .int .i64 (marg : Int), .bool bad] 76)).heap.size = w.heap.size + 1 by simp] at d0 d1 d2 d3 g0 g1 g2 g3 l2
  go_wp2_with fail
  refine bodyPost_ret (v := .agg #[.int .i64 (last : Int), .int .i64 (mean : Int), .int .i64 (marg : Int), .bool b]) (results_cell1 Try.results38 rfl ?_) rfl ⟨rfl, ?_⟩
  · go_simp
  · have k := ((Keep.setCell w1 ⟨w.heap.size, 3, none⟩ (.bool b)).mono (T := [w.heap.size, w.heap.size + 1]) (by simp)).trans ((lay4_keep _ (w.heap.size + 1) (.int .i64 (last : Int)) (.int .i64 (mean : Int)) (.int .i64 (marg : Int)) (.bool b)).mono (by simp))
    exact HB1.out.trans (k.below (by omega) (by simp))
end Go.Proofs.Ytlfnkplgjlpaaaa
