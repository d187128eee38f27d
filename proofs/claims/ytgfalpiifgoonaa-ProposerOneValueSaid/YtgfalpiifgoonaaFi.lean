/- New, Count, Less of both, find, place. -/
import Derived.Test.YtgfalpiifgoonaaTb
import Derived.Laws.IdiomMaps
import Derived.RegionTactic
import Derived.ChangeAlike
import Derived.BigRegion
namespace Go.Proofs.Ytgfalpiifgoonaa
open Go.RowKit
set_option linter.unusedVariables false
set_option maxRecDepth 100000

/-- results: cells of structs, then slots -/
theorem res_c1t1 {P : Program} {fn : Func} {t s : Tmp} {u : TypeId} {tmps : Array Value} {w : World} {ad : Addr} {v x : Value} (h : fn.results = #[.cell t u, .tmp s]) (ht : tmps.getD t undef = .pointer (some ad))
    (hl : (loadVar u ad).run P w = .ok v w) (hx : tmps.getD s undef = x) : (results fn tmps).run P w = .ok (.tuple #[v, x]) w := by
  have ht' : tmps[t]?.getD undef = .pointer (some ad) := by simpa using ht
  have hx' : tmps[s]?.getD undef = x := by simpa using hx
  simp [results, h, ht', hl, asAddr, hx']
theorem res_c1t2 {P : Program} {fn : Func} {t s s2 : Tmp} {u : TypeId} {tmps : Array Value} {w : World} {ad : Addr} {v x x2 : Value} (h : fn.results = #[.cell t u, .tmp s, .tmp s2]) (ht : tmps.getD t undef = .pointer (some ad))
    (hl : (loadVar u ad).run P w = .ok v w) (hx : tmps.getD s undef = x) (hx2 : tmps.getD s2 undef = x2) : (results fn tmps).run P w = .ok (.tuple #[v, x, x2]) w := by
  have ht' : tmps[t]?.getD undef = .pointer (some ad) := by simpa using ht
  have hx' : tmps[s]?.getD undef = x := by simpa using hx
  have hx2' : tmps[s2]?.getD undef = x2 := by simpa using hx2
  simp [results, h, ht', hl, asAddr, hx', hx2']
theorem res_c2t1 {P : Program} {fn : Func} {t t2 s : Tmp} {u u2 : TypeId} {tmps : Array Value} {w : World} {ad ad2 : Addr} {v v2 x : Value} (h : fn.results = #[.cell t u, .cell t2 u2, .tmp s]) (ht : tmps.getD t undef = .pointer (some ad)) (ht2 : tmps.getD t2 undef = .pointer (some ad2))
    (hl : (loadVar u ad).run P w = .ok v w) (hl2 : (loadVar u2 ad2).run P w = .ok v2 w) (hx : tmps.getD s undef = x) : (results fn tmps).run P w = .ok (.tuple #[v, v2, x]) w := by
  have ht' : tmps[t]?.getD undef = .pointer (some ad) := by simpa using ht
  have ht2' : tmps[t2]?.getD undef = .pointer (some ad2) := by simpa using ht2
  have hx' : tmps[s]?.getD undef = x := by simpa using hx
  simp [results, h, ht', ht2', hl, hl2, asAddr, hx']
theorem res_c2t2 {P : Program} {fn : Func} {t t2 s s2 : Tmp} {u u2 : TypeId} {tmps : Array Value} {w : World} {ad ad2 : Addr} {v v2 x x2 : Value} (h : fn.results = #[.cell t u, .cell t2 u2, .tmp s, .tmp s2]) (ht : tmps.getD t undef = .pointer (some ad)) (ht2 : tmps.getD t2 undef = .pointer (some ad2))
    (hl : (loadVar u ad).run P w = .ok v w) (hl2 : (loadVar u2 ad2).run P w = .ok v2 w) (hx : tmps.getD s undef = x) (hx2 : tmps.getD s2 undef = x2) : (results fn tmps).run P w = .ok (.tuple #[v, v2, x, x2]) w := by
  have ht' : tmps[t]?.getD undef = .pointer (some ad) := by simpa using ht
  have ht2' : tmps[t2]?.getD undef = .pointer (some ad2) := by simpa using ht2
  have hx' : tmps[s]?.getD undef = x := by simpa using hx
  have hx2' : tmps[s2]?.getD undef = x2 := by simpa using hx2
  simp [results, h, ht', ht2', hl, hl2, asAddr, hx', hx2']
theorem TabW.new (w : World) (most : Nat) (h1 : 1 ≤ most) (h2 : most ≤ 4096) : TabW ((w.alloc (.map #[] 0)).alloc (.cells #[.int .i64 (most : Int), .map (some w.heap.size)] 103)) w.heap.size (w.heap.size + 1) w.heap.size most 0 (fun _ => none) := by
  have hs : (w.alloc (.map #[] 0)).heap.size = w.heap.size + 1 := by simp
  have hn := heap_alloc_new (w.alloc (.map #[] 0)) (.cells #[.int .i64 (most : Int), .map (some w.heap.size)] 103)
  rw [hs] at hn
  exact ⟨(MapV.made w).keep (Keep.of_below (below_alloc (Below.refl _ _) _) []) (by simp), hn, by omega, Nat.le_refl _, by omega, h1, h2, Nat.zero_le _⟩
set_option maxHeartbeats 800000 in
theorem new_yes (most : Nat) (h1 : 1 ≤ most) (h2 : most ≤ 4096) (w : World) : Calls Try.prog 21 #[.int .i64 (most : Int)] w fun e w' =>
    ∃ hn gm, e = .returned (.tuple #[.pointer (some ⟨hn, 0, none⟩), .int .i64 0]) ∧ TabW w' w.heap.size hn gm most 0 (fun _ => none) ∧ Below w.heap.size w w' := by
  have HN := Lib.hid (TabW.new w most h1 h2)
  have k1 : (1 : Int) ≤ (most : Int) := by omega
  have k2 : (most : Int) ≤ 4096 := by omega
  clear h1 h2
  have hmm := @run_makeMap Try.prog
  go_enter Try.func21, Try.ntmps21
  go_wp2_with fail
  go_ret2
  exact ⟨_, _, rfl, HN.out, below_alloc (below_alloc (Below.refl _ _) _) _⟩
set_option maxHeartbeats 800000 in
theorem new_no (most : Int) (h : ¬ (1 ≤ most ∧ most ≤ 4096)) (w : World) : Calls Try.prog 21 #[.int .i64 most] w fun e w' => e = .returned (.tuple #[.pointer none, .int .i64 1]) ∧ w = w' := by
  by_cases h1 : most < 1
  · clear h
    go_enter Try.func21, Try.ntmps21
    go_wp2_with fail
    go_ret2
    exact ⟨rfl, rfl⟩
  · have h2 : 4096 < most := by omega
    clear h
    go_enter Try.func21, Try.ntmps21
    go_wp2_with fail
    go_ret2
    exact ⟨rfl, rfl⟩
set_option maxHeartbeats 800000 in
theorem less_any (b p : Bl) (w : World) : Calls Try.prog 23 #[b.ag, p.ag] w fun e w' => e = .returned (.bool (low b p)) ∧ Below w.heap.size w w' := by
  obtain ⟨br, bn⟩ := b
  obtain ⟨pr, pn⟩ := p
  have HB := Lib.hid (below_alloc (below_alloc (Below.refl w.heap.size w) (Bl.obj ⟨br, bn⟩)) (Bl.obj ⟨pr, pn⟩))
  unfold low
  by_cases h : br = pr
  · subst h
    go_enter Try.func23, Try.ntmps23
    go_wp2_with fail
    go_ret
    refine ⟨ret_bool ?_, HB.out⟩
    simp
  · go_enter Try.func23, Try.ntmps23
    go_wp2_with fail
    go_ret
    refine ⟨ret_bool ?_, HB.out⟩
    simp [h]
set_option maxHeartbeats 800000 in
theorem rless_any (b p : Bl) (w : World) : Calls Try.prog 28 #[b.ag, p.ag] w fun e w' => e = .returned (.bool (low b p)) ∧ Below w.heap.size w w' := by
  obtain ⟨br, bn⟩ := b
  obtain ⟨pr, pn⟩ := p
  have HB := Lib.hid (below_alloc (below_alloc (Below.refl w.heap.size w) (Bl.obj ⟨br, bn⟩)) (Bl.obj ⟨pr, pn⟩))
  unfold low
  by_cases h : br = pr
  · subst h
    go_enter Try.func28, Try.ntmps28
    go_wp2_with fail
    go_ret
    refine ⟨ret_bool ?_, HB.out⟩
    simp
  · by_cases h2 : br < pr
    · go_enter Try.func28, Try.ntmps28
      go_wp2_with fail
      go_ret
      refine ⟨ret_bool ?_, HB.out⟩
      simp [h2]
    · go_enter Try.func28, Try.ntmps28
      go_wp2_with fail
      go_ret
      refine ⟨ret_bool ?_, HB.out⟩
      simp [h2]
set_option maxHeartbeats 800000 in
theorem find_nil (i : In) (w : World) : Calls Try.prog 34 #[.pointer none, i.ag] w fun e w' => e = .returned (.tuple #[r0.ag, .int .i64 1]) ∧ Below w.heap.size w w' := by
  obtain ⟨tx, ib, ir, ix⟩ := i
  go_enter Try.func34, Try.ntmps34
  go_wp2_with fail
  refine bodyPost_ret (v := .tuple #[r0.ag, .int .i64 1]) (res_c1t1 Try.results34 rfl ?_ rfl) rfl ⟨rfl, ?_⟩
  · go_simp
  · exact below_alloc (below_alloc (Below.refl _ _) _) _
section
variable {w w' : World} {B hn gm most n : Nat} {f : Fn}
/-- what find tells -/
abbrev fE (o : Option Rw) : Int := if o.isSome then 0 else 102
/-- a block of six cells -/
abbrev Row6 (w : World) (bx : Nat) (r : Rw) : Prop := w.heap[bx]? = some (.cells #[.int .u32 r.p.round, .int .u8 r.p.node, .bool r.a.is, .int .u32 r.a.b.round, .int .u8 r.a.b.node, .string r.a.v] 114 (0, 0))
theorem Row6.lt {w : World} {bx : Nat} {r : Rw} (h : Row6 w bx r) : bx < w.heap.size := (Array.getElem?_eq_some_iff.1 h).1
theorem Row6.below {w w' : World} {bx : Nat} {r : Rw} (h : Row6 w bx r) (b : Below w.heap.size w w') : Row6 w' bx r := (b.block bx h.lt).trans h
theorem Row6.new (w : World) (r : Rw) : Row6 (w.alloc r.obj) w.heap.size r := heap_alloc_new w _
theorem Row6.all {w : World} {bx : Nat} {r : Rw} (h : Row6 w bx r) : w.cell? ⟨bx, 0, none⟩ = some (.int .u32 r.p.round) ∧ w.cell? ⟨bx, 1, none⟩ = some (.int .u8 r.p.node) ∧ w.cell? ⟨bx, 2, none⟩ = some (.bool r.a.is) ∧ w.cell? ⟨bx, 3, none⟩ = some (.int .u32 r.a.b.round) ∧
    w.cell? ⟨bx, 4, none⟩ = some (.int .u8 r.a.b.node) ∧ w.cell? ⟨bx, 5, none⟩ = some (.string r.a.v) :=
  ⟨cell_of_row w bx 0 _ _ (0, 0) h, cell_of_row w bx 1 _ _ (0, 0) h, cell_of_row w bx 2 _ _ (0, 0) h, cell_of_row w bx 3 _ _ (0, 0) h, cell_of_row w bx 4 _ _ (0, 0) h, cell_of_row w bx 5 _ _ (0, 0) h⟩
theorem Row6.fr {w : World} {bx : Nat} {r : Rw} (h : Row6 w bx r) : w.frozen? ⟨bx, 0, none⟩ = false ∧ w.frozen? ⟨bx, 1, none⟩ = false ∧ w.frozen? ⟨bx, 2, none⟩ = false ∧ w.frozen? ⟨bx, 3, none⟩ = false ∧ w.frozen? ⟨bx, 4, none⟩ = false ∧ w.frozen? ⟨bx, 5, none⟩ = false :=
  ⟨frozen_of_row w bx 0 _ _ h, frozen_of_row w bx 1 _ _ h, frozen_of_row w bx 2 _ _ h, frozen_of_row w bx 3 _ _ h, frozen_of_row w bx 4 _ _ h, frozen_of_row w bx 5 _ _ h⟩
abbrev Row4 (w : World) (bx : Nat) (i : In) : Prop := w.heap[bx]? = some (.cells #[.int .u64 i.tx, .int .i64 i.b, .int .i64 i.r, .int .u32 i.x] 110 (0, 0))
theorem Row4.lt {w : World} {bx : Nat} {i : In} (h : Row4 w bx i) : bx < w.heap.size := (Array.getElem?_eq_some_iff.1 h).1
theorem Row4.below {w w' : World} {bx : Nat} {i : In} (h : Row4 w bx i) (b : Below w.heap.size w w') : Row4 w' bx i := (b.block bx h.lt).trans h
theorem Row4.new (w : World) (i : In) : Row4 (w.alloc i.obj) w.heap.size i := heap_alloc_new w _
theorem Row4.all {w : World} {bx : Nat} {i : In} (h : Row4 w bx i) : w.cell? ⟨bx, 0, none⟩ = some (.int .u64 i.tx) ∧ w.cell? ⟨bx, 1, none⟩ = some (.int .i64 i.b) ∧ w.cell? ⟨bx, 2, none⟩ = some (.int .i64 i.r) ∧ w.cell? ⟨bx, 3, none⟩ = some (.int .u32 i.x) :=
  ⟨cell_of_row w bx 0 _ _ (0, 0) h, cell_of_row w bx 1 _ _ (0, 0) h, cell_of_row w bx 2 _ _ (0, 0) h, cell_of_row w bx 3 _ _ (0, 0) h⟩
abbrev Row2 (w : World) (bx : Nat) (b : Bl) : Prop := w.heap[bx]? = some (.cells #[.int .u32 b.round, .int .u8 b.node] 34 (0, 0))
theorem Row2.lt {w : World} {bx : Nat} {b : Bl} (h : Row2 w bx b) : bx < w.heap.size := (Array.getElem?_eq_some_iff.1 h).1
theorem Row2.below {w w' : World} {bx : Nat} {i : Bl} (h : Row2 w bx i) (b : Below w.heap.size w w') : Row2 w' bx i := (b.block bx h.lt).trans h
theorem Row2.new (w : World) (b : Bl) : Row2 (w.alloc b.obj) w.heap.size b := heap_alloc_new w _
theorem Row2.all {w : World} {bx : Nat} {b : Bl} (h : Row2 w bx b) : w.cell? ⟨bx, 0, none⟩ = some (.int .u32 b.round) ∧ w.cell? ⟨bx, 1, none⟩ = some (.int .u8 b.node) ∧ w.frozen? ⟨bx, 0, none⟩ = false ∧ w.frozen? ⟨bx, 1, none⟩ = false :=
  ⟨cell_of_row w bx 0 _ _ (0, 0) h, cell_of_row w bx 1 _ _ (0, 0) h, frozen_of_row w bx 0 _ _ h, frozen_of_row w bx 1 _ _ h⟩
abbrev RowA (w : World) (bx : Nat) (a : Ac) : Prop := w.heap[bx]? = some (.cells #[.bool a.is, .int .u32 a.b.round, .int .u8 a.b.node, .string a.v] 42 (0, 0))
theorem RowA.lt {w : World} {bx : Nat} {a : Ac} (h : RowA w bx a) : bx < w.heap.size := (Array.getElem?_eq_some_iff.1 h).1
theorem RowA.below {w w' : World} {bx : Nat} {i : Ac} (h : RowA w bx i) (b : Below w.heap.size w w') : RowA w' bx i := (b.block bx h.lt).trans h
theorem RowA.new (w : World) (a : Ac) : RowA (w.alloc a.obj) w.heap.size a := heap_alloc_new w _
theorem RowA.all {w : World} {bx : Nat} {a : Ac} (h : RowA w bx a) : w.cell? ⟨bx, 0, none⟩ = some (.bool a.is) ∧ w.cell? ⟨bx, 1, none⟩ = some (.int .u32 a.b.round) ∧ w.cell? ⟨bx, 2, none⟩ = some (.int .u8 a.b.node) ∧ w.cell? ⟨bx, 3, none⟩ = some (.string a.v) ∧
    w.frozen? ⟨bx, 0, none⟩ = false ∧ w.frozen? ⟨bx, 1, none⟩ = false ∧ w.frozen? ⟨bx, 2, none⟩ = false ∧ w.frozen? ⟨bx, 3, none⟩ = false :=
  ⟨cell_of_row w bx 0 _ _ (0, 0) h, cell_of_row w bx 1 _ _ (0, 0) h, cell_of_row w bx 2 _ _ (0, 0) h, cell_of_row w bx 3 _ _ (0, 0) h, frozen_of_row w bx 0 _ _ h, frozen_of_row w bx 1 _ _ h, frozen_of_row w bx 2 _ _ h, frozen_of_row w bx 3 _ _ h⟩
abbrev lay2 (w : World) (bx : Nat) (b : Bl) : World := (w.setCell ⟨bx, 0, none⟩ (.int .u32 b.round)).setCell ⟨bx, 1, none⟩ (.int .u8 b.node)
abbrev layA (w : World) (bx : Nat) (a : Ac) : World := (((w.setCell ⟨bx, 0, none⟩ (.bool a.is)).setCell ⟨bx, 1, none⟩ (.int .u32 a.b.round)).setCell ⟨bx, 2, none⟩ (.int .u8 a.b.node)).setCell ⟨bx, 3, none⟩ (.string a.v)
abbrev lay6 (w : World) (bx : Nat) (r : Rw) : World := (((((w.setCell ⟨bx, 0, none⟩ (.int .u32 r.p.round)).setCell ⟨bx, 1, none⟩ (.int .u8 r.p.node)).setCell ⟨bx, 2, none⟩ (.bool r.a.is)).setCell ⟨bx, 3, none⟩ (.int .u32 r.a.b.round)).setCell ⟨bx, 4, none⟩ (.int .u8 r.a.b.node)).setCell ⟨bx, 5, none⟩ (.string r.a.v)
theorem lay2_keep (w : World) (bx : Nat) (b : Bl) : Keep [bx] w (lay2 w bx b) := (Keep.setCell w ⟨bx, 0, none⟩ _).trans (Keep.setCell _ ⟨bx, 1, none⟩ _)
theorem layA_keep (w : World) (bx : Nat) (a : Ac) : Keep [bx] w (layA w bx a) :=
  (((Keep.setCell w ⟨bx, 0, none⟩ _).trans (Keep.setCell _ ⟨bx, 1, none⟩ _)).trans (Keep.setCell _ ⟨bx, 2, none⟩ _)).trans (Keep.setCell _ ⟨bx, 3, none⟩ _)
theorem lay6_keep (w : World) (bx : Nat) (r : Rw) : Keep [bx] w (lay6 w bx r) :=
  (((((Keep.setCell w ⟨bx, 0, none⟩ _).trans (Keep.setCell _ ⟨bx, 1, none⟩ _)).trans (Keep.setCell _ ⟨bx, 2, none⟩ _)).trans (Keep.setCell _ ⟨bx, 3, none⟩ _)).trans (Keep.setCell _ ⟨bx, 4, none⟩ _)).trans (Keep.setCell _ ⟨bx, 5, none⟩ _)
set_option maxRecDepth 100000 in
set_option maxHeartbeats 1600000 in
theorem find_any (i : In) (hi : i.Ok) (w : World) (h : TabW w B hn gm most n f) : Calls Try.prog 34 #[.pointer (some ⟨hn, 0, none⟩), i.ag] w fun e w' => e = .returned (.tuple #[((f i).getD r0).ag, .int .i64 (fE (f i))]) ∧ Below w.heap.size w w' := by
  obtain ⟨W, hW⟩ : ∃ W, W = (w.alloc i.obj).alloc r0.obj := ⟨_, rfl⟩
  have bW : Below w.heap.size w W := by rw [hW]; exact below_alloc (below_alloc (Below.refl _ _) _) _
  have hz : W.heap.size = w.heap.size + 2 := by rw [hW]; simp
  have ki : Row4 W w.heap.size i := by
    have := (Row4.new w i).below (below_alloc (Below.refl _ _) r0.obj)
    rw [← hW] at this; exact this
  have kz : Row6 W (w.heap.size + 1) r0 := by
    have := Row6.new (w.alloc i.obj) r0
    rw [← hW, show (w.alloc i.obj).heap.size = w.heap.size + 1 by simp] at this; exact this
  have t := h.below bW
  have l1 := t.drew.map.look i hi
  have l2 := fun o => ((t.alloc o).drew).map.look i hi
  have c1 := t.at1
  have c2 := fun o => (t.alloc o).at1
  have ki2 := fun o => (ki.below (below_alloc (Below.refl _ _) o))
  have kis := fun o => (ki2 o).all
  obtain ⟨d0, d1, d2, d3⟩ := ki.all
  have d4 := fun o => (kis o).1
  have d5 := fun o => (kis o).2.1
  have d6 := fun o => (kis o).2.2.1
  have d7 := fun o => (kis o).2.2.2
  have HB := Lib.hid bW
  have KZ := Lib.hid kz
  have HZ := Lib.hid hz
  clear h hi t ki ki2 kis bW kz
  obtain ⟨tx, ib, ir, ix⟩ := i
  simp only [In.ag, In.obj, Rw.ag, Rw.obj] at hW l1 l2 ⊢
  cases hk : f ⟨tx, ib, ir, ix⟩ with
  | none =>
    simp only [hk, Option.getD_none, Option.isSome_none] at l1 l2
    clear hk
    show Calls _ _ _ _ fun e w' => e = .returned (.tuple #[.agg #[.int .u32 0, .int .u8 0, .bool false, .int .u32 0, .int .u8 0, .string ⟨#[]⟩], .int .i64 102]) ∧ _
    go_enter Try.func34, Try.ntmps34
    go_wp2_with fail
    rw [← hW]
    clear hW hz
    generalize hbi : w.heap.size = bi at *
    go_region
    clear l1 l2 c1 c2 d0 d1 d2 d3 d4 d5 d6 d7
    have b2 : Below W.heap.size W (W.alloc (Rw.obj r0)).drew := (below_alloc (Below.refl _ _) _).drew
    have k2 := KZ.out.below b2
    have n2 : Row6 (W.alloc (Rw.obj r0)).drew W.heap.size r0 := (Row6.new W r0).below (Below.refl _ _).drew
    simp only [Rw.obj] at b2 k2 n2
    have HB2 := Lib.hid (HB.out.trans (b2.mono (by have := HZ.out; omega)))
    have HS2 := Lib.hid (show bi ≤ _ from Nat.le_trans (by have := HZ.out; omega) b2.size)
    obtain ⟨d0, d1, d2, d3, d4, d5⟩ := n2.all
    obtain ⟨f0, f1, f2, f3, f4, f5⟩ := k2.fr
    obtain ⟨e0, e1, e2, e3, e4, e5⟩ := k2.all
    clear b2 k2 n2
    generalize (W.alloc (.cells #[.int .u32 0, .int .u8 0, .bool false, .int .u32 0, .int .u8 0, .string ⟨#[]⟩] 114)).drew = W2 at *
    go_wp2_with fail
    refine bodyPost_ret (v := .tuple #[.agg #[.int .u32 0, .int .u8 0, .bool false, .int .u32 0, .int .u8 0, .string ⟨#[]⟩], .int .i64 102]) (res_c1t1 Try.results34 rfl ?_ rfl) rfl ⟨rfl, ?_⟩
    · go_simp
    · exact HB2.out.trans ((lay6_keep W2 (bi + 1) r0).below HS2.out (by simp))
  | some p =>
    obtain ⟨⟨pr, pn⟩, ⟨is, ⟨ar, an⟩, av⟩⟩ := p
    simp only [hk, Option.getD_some, Option.isSome_some] at l1 l2
    clear hk
    show Calls _ _ _ _ fun e w' => e = .returned (.tuple #[.agg #[.int .u32 pr, .int .u8 pn, .bool is, .int .u32 ar, .int .u8 an, .string av], .int .i64 0]) ∧ _
    go_enter Try.func34, Try.ntmps34
    go_wp2_with fail
    rw [← hW]
    clear hW hz
    generalize hbi : w.heap.size = bi at *
    go_region
    clear l1 l2 c1 c2 d0 d1 d2 d3 d4 d5 d6 d7
    have b2 : Below W.heap.size W (W.alloc (Rw.obj ⟨⟨pr, pn⟩, ⟨is, ⟨ar, an⟩, av⟩⟩)).drew := (below_alloc (Below.refl _ _) _).drew
    have k2 := KZ.out.below b2
    have n2 : Row6 (W.alloc (Rw.obj ⟨⟨pr, pn⟩, ⟨is, ⟨ar, an⟩, av⟩⟩)).drew W.heap.size ⟨⟨pr, pn⟩, ⟨is, ⟨ar, an⟩, av⟩⟩ := (Row6.new W ⟨⟨pr, pn⟩, ⟨is, ⟨ar, an⟩, av⟩⟩).below (Below.refl _ _).drew
    simp only [Rw.obj] at b2 k2 n2
    have HB2 := Lib.hid (HB.out.trans (b2.mono (by have := HZ.out; omega)))
    have HS2 := Lib.hid (show bi ≤ _ from Nat.le_trans (by have := HZ.out; omega) b2.size)
    obtain ⟨d0, d1, d2, d3, d4, d5⟩ := n2.all
    obtain ⟨f0, f1, f2, f3, f4, f5⟩ := k2.fr
    obtain ⟨e0, e1, e2, e3, e4, e5⟩ := k2.all
    clear b2 k2 n2
    generalize (W.alloc (.cells #[.int .u32 pr, .int .u8 pn, .bool is, .int .u32 ar, .int .u8 an, .string av] 114)).drew = W2 at *
    go_wp2_with fail
    refine bodyPost_ret (v := .tuple #[.agg #[.int .u32 pr, .int .u8 pn, .bool is, .int .u32 ar, .int .u8 an, .string av], .int .i64 0]) (res_c1t1 Try.results34 rfl ?_ rfl) rfl ⟨rfl, ?_⟩
    · go_simp
    · exact HB2.out.trans ((lay6_keep W2 (bi + 1) ⟨⟨pr, pn⟩, ⟨is, ⟨ar, an⟩, av⟩⟩).below HS2.out (by simp))
end
end Go.Proofs.Ytgfalpiifgoonaa
