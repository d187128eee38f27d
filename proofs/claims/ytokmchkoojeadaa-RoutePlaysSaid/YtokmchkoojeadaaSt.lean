/- Step of a table. -/
import Derived.Test.YtokmchkoojeadaaRq
namespace Go.Proofs.Ytokmchkoojeadaa
open Go.RowKit Go.Sort Go.Shelf
attribute [local go_sem] Oper.semAt_some
set_option linter.unusedVariables false
set_option linter.unusedSimpArgs false
set_option maxRecDepth 100000
def p0 : Pe := ⟨0, 0, 0⟩
/-- what Step says -/
def stepR (s p c : Pe) (F : List Pe) (th tl : Int) : Pe × Bool × Int :=
  if own s p c th tl then (s, true, 0)
  else if (th == c.h && tl == c.l) || btw s.h s.l th tl c.h c.l then (c, true, 0)
  else match F.reverse.find? (fun f => btw s.h s.l f.h f.l th tl) with
    | some f => (f, false, 0)
    | none => (p0, false, 131)
abbrev stepV (r : Pe × Bool × Int) : Value := .tuple #[r.1.v, .bool r.2.1, .int .i64 r.2.2]
/-- the five boxes of Step -/
structure Box5 (w : World) (b : Nat) (th tl : Int) (x0 x1 x2 x3 x4 : Nat) (r : Pe × Bool × Int) : Prop where
  r0 : w.heap[x0]? = some (.cells #[.pointer (some ⟨b, 0, none⟩)] 31 (0, 0))
  r1 : w.heap[x1]? = some (.cells #[.int .u64 th, .int .u64 tl] 24 (0, 0))
  r2 : w.heap[x2]? = some (.cells #[.int .i64 r.1.n, .int .u64 r.1.h, .int .u64 r.1.l] 26 (0, 0))
  r3 : w.heap[x3]? = some (.cells #[.bool r.2.1] 4 (0, 0))
  r4 : w.heap[x4]? = some (.cells #[.int .i64 r.2.2] 32 (0, 0))
theorem row3_set {w : World} {x : Nat} {d0 d1 d2 : Value} {t : TypeId} (h : w.heap[x]? = some (.cells #[d0, d1, d2] t (0, 0))) (c0 c1 c2 : Value) : (((w.setCell ⟨x, 0, none⟩ c0).setCell ⟨x, 1, none⟩ c1).setCell ⟨x, 2, none⟩ c2).heap[x]? = some (.cells #[c0, c1, c2] t (0, 0)) :=
  heap_setCell_same _ x 2 _ _ c2 (heap_setCell_same _ x 1 _ _ c1 (heap_setCell_same _ x 0 _ _ c0 h))
theorem row3_keep (w : World) (x : Nat) (c0 c1 c2 : Value) : Keep [x] w (((w.setCell ⟨x, 0, none⟩ c0).setCell ⟨x, 1, none⟩ c1).setCell ⟨x, 2, none⟩ c2) :=
  ((Keep.setCell w ⟨x, 0, none⟩ c0).trans (Keep.setCell _ ⟨x, 1, none⟩ c1)).trans (Keep.setCell _ ⟨x, 2, none⟩ c2)
theorem row1_set {w : World} {x : Nat} {d0 : Value} {t : TypeId} (h : w.heap[x]? = some (.cells #[d0] t (0, 0))) (c0 : Value) : (w.setCell ⟨x, 0, none⟩ c0).heap[x]? = some (.cells #[c0] t (0, 0)) := heap_setCell_same _ x 0 _ _ c0 h
section
variable {w w' : World} {b x0 x1 x2 x3 x4 : Nat} {th tl : Int} {r : Pe × Bool × Int}
theorem Box5.below (h : Box5 w b th tl x0 x1 x2 x3 x4 r) (k : Below w.heap.size w w') : Box5 w' b th tl x0 x1 x2 x3 x4 r :=
  ⟨(k.block _ (Array.getElem?_eq_some_iff.1 h.r0).1).trans h.r0, (k.block _ (Array.getElem?_eq_some_iff.1 h.r1).1).trans h.r1, (k.block _ (Array.getElem?_eq_some_iff.1 h.r2).1).trans h.r2, (k.block _ (Array.getElem?_eq_some_iff.1 h.r3).1).trans h.r3, (k.block _ (Array.getElem?_eq_some_iff.1 h.r4).1).trans h.r4⟩
/-- the results are stored -/
abbrev laid5 (w : World) (x2 x3 x4 : Nat) (r : Pe × Bool × Int) : World := ((((w.setCell ⟨x2, 0, none⟩ (.int .i64 r.1.n)).setCell ⟨x2, 1, none⟩ (.int .u64 r.1.h)).setCell ⟨x2, 2, none⟩ (.int .u64 r.1.l)).setCell ⟨x3, 0, none⟩ (.bool r.2.1)).setCell ⟨x4, 0, none⟩ (.int .i64 r.2.2)
theorem Box5.laid (h : Box5 w b th tl x0 x1 x2 x3 x4 r) (h23 : x2 ≠ x3) (h24 : x2 ≠ x4) (h34 : x3 ≠ x4) (h0 : x0 ≠ x2 ∧ x0 ≠ x3 ∧ x0 ≠ x4) (h1 : x1 ≠ x2 ∧ x1 ≠ x3 ∧ x1 ≠ x4) (r' : Pe × Bool × Int) :
    Box5 (laid5 w x2 x3 x4 r') b th tl x0 x1 x2 x3 x4 r' ∧ Keep [x2, x3, x4] w (laid5 w x2 x3 x4 r') := by
  have a3 := row3_set h.r2 (.int .i64 r'.1.n) (.int .u64 r'.1.h) (.int .u64 r'.1.l)
  have kk := row3_keep w x2 (.int .i64 r'.1.n) (.int .u64 r'.1.h) (.int .u64 r'.1.l)
  unfold laid5
  generalize ((w.setCell ⟨x2, 0, none⟩ (.int .i64 r'.1.n)).setCell ⟨x2, 1, none⟩ (.int .u64 r'.1.h)).setCell ⟨x2, 2, none⟩ (.int .u64 r'.1.l) = w3 at *
  have k4 := Keep.setCell w3 ⟨x3, 0, none⟩ (.bool r'.2.1)
  have a4 := row1_set (row_keep h.r3 kk (by simpa using h23.symm)) (.bool r'.2.1)
  have k5 := Keep.setCell (w3.setCell ⟨x3, 0, none⟩ (.bool r'.2.1)) ⟨x4, 0, none⟩ (.int .i64 r'.2.2)
  have a5 := row1_set (row_keep (row_keep h.r4 kk (by simpa using h24.symm)) k4 (by simpa using h34.symm)) (.int .i64 r'.2.2)
  have m1 : Keep [x2, x3, x4] w w3 := kk.mono (by simp)
  have m2 := (m1.trans (k4.mono (by simp))).trans (k5.mono (by simp))
  exact ⟨⟨row_keep h.r0 m2 (by simp; exact h0), row_keep h.r1 m2 (by simp; exact h1), row_keep (row_keep a3 k4 (by simpa using h23)) k5 (by simpa using h24), row_keep a4 k5 (by simpa using h34), a5⟩, m2⟩
end
abbrev box5 (w : World) (b : Nat) (th tl : Int) : World := ((((w.alloc (.cells #[.pointer (some ⟨b, 0, none⟩)] 31)).alloc (.cells #[.int .u64 th, .int .u64 tl] 24)).alloc (.cells #[.int .i64 0, .int .u64 0, .int .u64 0] 26)).alloc (.cells #[.bool false] 4)).alloc (.cells #[.int .i64 0] 32)
theorem box5_is (w : World) (b : Nat) (th tl : Int) : Box5 (box5 w b th tl) b th tl w.heap.size (w.heap.size + 1) (w.heap.size + 1 + 1) (w.heap.size + 1 + 1 + 1) (w.heap.size + 1 + 1 + 1 + 1) (p0, false, 0) ∧ Below w.heap.size w (box5 w b th tl) := by
  have e0 := heap_alloc_new w (.cells #[.pointer (some ⟨b, 0, none⟩)] 31)
  generalize hw0 : w.alloc (.cells #[.pointer (some ⟨b, 0, none⟩)] 31) = w0 at *
  have s0 : w0.heap.size = w.heap.size + 1 := by rw [← hw0]; simp
  have b0 : Below w.heap.size w w0 := hw0 ▸ below_alloc (Below.refl _ _) _
  have e1 := heap_alloc_new w0 (.cells #[.int .u64 th, .int .u64 tl] 24)
  unfold box5
  rw [hw0]
  generalize hw1 : w0.alloc (.cells #[.int .u64 th, .int .u64 tl] 24) = w1 at *
  have s1 : w1.heap.size = w.heap.size + 1 + 1 := by rw [← hw1]; simp [s0]
  have b1 : Below w0.heap.size w0 w1 := hw1 ▸ below_alloc (Below.refl _ _) _
  have e2 := heap_alloc_new w1 (.cells #[.int .i64 0, .int .u64 0, .int .u64 0] 26)
  generalize hw2 : w1.alloc (.cells #[.int .i64 0, .int .u64 0, .int .u64 0] 26) = w2 at *
  have s2 : w2.heap.size = w.heap.size + 1 + 1 + 1 := by rw [← hw2]; simp [s1]
  have b2 : Below w1.heap.size w1 w2 := hw2 ▸ below_alloc (Below.refl _ _) _
  have e3 := heap_alloc_new w2 (.cells #[.bool false] 4)
  generalize hw3 : w2.alloc (.cells #[.bool false] 4) = w3 at *
  have s3 : w3.heap.size = w.heap.size + 1 + 1 + 1 + 1 := by rw [← hw3]; simp [s2]
  have b3 : Below w2.heap.size w2 w3 := hw3 ▸ below_alloc (Below.refl _ _) _
  have e4 := heap_alloc_new w3 (.cells #[.int .i64 0] 32)
  generalize hw4 : w3.alloc (.cells #[.int .i64 0] 32) = w4 at *
  have b4 : Below w3.heap.size w3 w4 := hw4 ▸ below_alloc (Below.refl _ _) _
  rw [s0] at e1; rw [s1] at e2; rw [s2] at e3; rw [s3] at e4
  refine ⟨⟨?_, ?_, ?_, ?_, e4⟩, below_next (below_next (below_next (below_next b0 b1) b2) b3) b4⟩
  · exact (b4.block _ (by omega)).trans ((b3.block _ (by omega)).trans ((b2.block _ (by omega)).trans ((b1.block _ (by omega)).trans e0)))
  · exact (b4.block _ (by omega)).trans ((b3.block _ (by omega)).trans ((b2.block _ (by omega)).trans e1))
  · exact (b4.block _ (by omega)).trans ((b3.block _ (by omega)).trans e2)
  · exact (b4.block _ (by omega)).trans e3
/-- what the results' cells say -/
theorem step_results {w : World} {b x0 x1 x2 x3 x4 : Nat} {th tl : Int} {r : Pe × Bool × Int} (h : Box5 w b th tl x0 x1 x2 x3 x4 r) {tmps : Array Value} (h4 : tmps.getD 4 undef = .pointer (some ⟨x2, 0, none⟩)) (h5 : tmps.getD 5 undef = .pointer (some ⟨x3, 0, none⟩)) (h6 : tmps.getD 6 undef = .pointer (some ⟨x4, 0, none⟩)) :
    (results Try.f19 tmps).run Try.prog w = .ok (stepV r) w := by
  have a0 := cell_of_row w x2 0 _ _ (0, 0) h.r2; have a1 := cell_of_row w x2 1 _ _ (0, 0) h.r2; have a2 := cell_of_row w x2 2 _ _ (0, 0) h.r2
  have a3 := cell_of_row w x3 0 _ _ (0, 0) h.r3; have a4 := cell_of_row w x4 0 _ _ (0, 0) h.r4
  simp only [List.getElem?_toArray, List.getElem?_cons_succ, List.getElem?_cons_zero] at a0 a1 a2 a3 a4
  have h4' : tmps[4]?.getD undef = .pointer (some ⟨x2, 0, none⟩) := by simpa using h4
  have h5' : tmps[5]?.getD undef = .pointer (some ⟨x3, 0, none⟩) := by simpa using h5
  have h6' : tmps[6]?.getD undef = .pointer (some ⟨x4, 0, none⟩) := by simpa using h6
  simp [results, Try.results19, h4', h5', h6', asAddr, go_sem, a0, a1, a2, a3, a4]
theorem row_kept {W W' : World} {row : Option Nat} {x : Nat} {cs : Array Value} {t : TypeId} {fr : Nat × Nat} (h : W.heap[x]? = some (.cells cs t fr)) (hg : W.grownBy W' row) (hr : ∀ r, row = some r → ∃ o : Obj, W.heap[r]? = some o ∧ o.isCells = false) : W'.heap[x]? = some (.cells cs t fr) :=
  (hg.block x (Array.getElem?_eq_some_iff.1 h).1 (fun e => by obtain ⟨o, ho, hc⟩ := hr x e.symm; rw [h] at ho; cases ho; cases hc)).trans h
theorem Box5.kept {W W' : World} {row : Option Nat} {b x0 x1 x2 x3 x4 : Nat} {th tl : Int} {r : Pe × Bool × Int} (h : Box5 W b th tl x0 x1 x2 x3 x4 r) (hg : W.grownBy W' row) (hr : ∀ r, row = some r → ∃ o : Obj, W.heap[r]? = some o ∧ o.isCells = false) : Box5 W' b th tl x0 x1 x2 x3 x4 r :=
  ⟨row_kept h.r0 hg hr, row_kept h.r1 hg hr, row_kept h.r2 hg hr, row_kept h.r3 hg hr, row_kept h.r4 hg hr⟩
theorem seenB_rev (L : List Pe) : (seenB (fun j => L[j]?.getD p0) L.length 0).map (·.2) = L.reverse := by
  apply List.ext_getElem?
  intro i
  by_cases hi : i < L.length
  · rw [List.getElem?_map, List.getElem?_reverse hi]
    unfold seenB
    rw [List.getElem?_map, List.getElem?_range (by omega)]
    simp only [Option.map_some]
    rw [List.getElem?_eq_getElem (by omega)]
    rfl
  · rw [List.getElem?_eq_none (by simp [seenB]; omega), List.getElem?_eq_none (by simp; omega)]
theorem seenB_take (f : Nat → Pe) (len r : Nat) : seenB f len r = (seenB f len 0).take (len - r) := by
  unfold seenB
  rw [← List.map_take, List.take_range]
  congr 2
  omega
theorem find_none {L : List Pe} {f : Pe → Bool} (hne : ∀ y ∈ seenB (fun j => L[j]?.getD p0) L.length 0, f y.2 = false) : L.reverse.find? f = none := by
  rw [← seenB_rev, List.find?_eq_none]
  intro q hq
  obtain ⟨y, hy, rfl⟩ := List.mem_map.1 hq
  rw [hne y hy]
  decide
theorem find_some {L : List Pe} {f : Pe → Bool} {r : Nat} {ini : List (Nat × Pe)} {x : Nat × Pe} (e1 : seenB (fun j => L[j]?.getD p0) L.length r = ini ++ [x]) (e2 : ∀ y ∈ ini, f y.2 = false) (e3 : f x.2 = true) : L.reverse.find? f = some x.2 := by
  have h := List.take_append_drop (L.length - r) (seenB (fun j => L[j]?.getD p0) L.length 0)
  rw [← seenB_take, e1] at h
  rw [← seenB_rev, ← h, List.map_append, List.map_append, List.find?_append, List.find?_append]
  have : (ini.map (·.2)).find? f = none := by
    rw [List.find?_eq_none]
    intro q hq
    obtain ⟨y, hy, rfl⟩ := List.mem_map.1 hq
    rw [e2 y hy]
    decide
  rw [this]
  simp [e3]
theorem owns_at3 {w : World} {B cap g : Nat} {L : List Pe} (ho : w.ownsRow B 26 3 (.slice (some ⟨g, 0, none⟩) L.length cap) L.length (fl Pe.list L)) {j q : Nat} (hj : j < L.length) (hq : q < 3) : w.cell? ⟨g, j * 3 + q, none⟩ = ((L[j]?.getD p0).list)[q]? := by
  rcases ho.2 with ⟨h2, h3⟩ | ⟨g', cap', cur, h2, hb, hg, h3, h4, h5, h6⟩
  · omega
  · cases h2
    have hl := ho.1
    have hlt : j * 3 + q < L.length * 3 := by omega
    rw [cell_of_row w g _ cur _ (0, 0) hg]
    have h7 := congrArg (·[j * 3 + q]?) h6
    simp only [List.getElem?_take] at h7
    rw [if_pos hlt, Array.getElem?_toList, fl_at pe_len L j q hq] at h7
    rw [h7, List.getElem?_eq_getElem hj]
    rfl
set_option maxHeartbeats 8000000 in
theorem step_any {B b cap : Nat} {ao : Option Addr} {s p c : Pe} {L : List Pe} (th tl : Int) (w : World) (h : TbW w B b ao cap s p c L) (hL : L.length ≤ 1000) (hne : own s p c th tl = true ∨ L ≠ []) :
    Calls Try.prog 19 #[.pointer (some ⟨b, 0, none⟩), pos th tl] w fun e w' => e = .returned (stepV (stepR s p c L th tl)) ∧ Below w.heap.size w w' := by
  obtain ⟨hb5, hbel⟩ := box5_is w b th tl
  have H1 := Lib.hid (h.below hbel)
  have HNE := Lib.hid hne
  have HLL := Lib.hid hL
  have HBLO := Lib.hid h.base
  have BX := Lib.hid hb5; have B1 := Lib.hid hbel
  clear hb5 hbel h hne hL
  refine callsIn_wide.1 (callsIn_of_wp_marks (n := 6) Try.func19 rfl trivial (wpIn_wide.2 ?_) rfl)
  simp only [Try.ntmps19, List.size_toArray, List.length_cons, List.length_nil, Nat.reduceAdd, Nat.reduceSub, Array.replicate_succ, Array.replicate_zero, List.push_toArray, List.append_toArray, List.nil_append, List.cons_append]
  go_upto_region 1 with (fail)
  obtain ⟨x4, hx4⟩ : ∃ y, y = w.heap.size + 1 + 1 + 1 + 1 := ⟨_, rfl⟩
  rw [← hx4] at BX ⊢
  obtain ⟨x3, hx3⟩ : ∃ y, y = w.heap.size + 1 + 1 + 1 := ⟨_, rfl⟩
  rw [← hx3] at BX ⊢
  obtain ⟨x2, hx2⟩ : ∃ y, y = w.heap.size + 1 + 1 := ⟨_, rfl⟩
  rw [← hx2] at BX ⊢
  obtain ⟨x1, hx1⟩ : ∃ y, y = w.heap.size + 1 := ⟨_, rfl⟩
  rw [← hx1] at BX ⊢
  obtain ⟨x0, hx0⟩ : ∃ y, y = w.heap.size := ⟨_, rfl⟩
  rw [← hx0] at BX ⊢
  have XX := Lib.hid (show x0 = w.heap.size ∧ x1 = x0 + 1 ∧ x2 = x0 + 2 ∧ x3 = x0 + 3 ∧ x4 = x0 + 4 from ⟨hx0, by omega, by omega, by omega, by omega⟩)
  clear hx0 hx1 hx2 hx3 hx4
  change Code.wp _ _ _ _ (box5 w b th tl)
  generalize box5 w b th tl = w1 at *
  have a0 := cell_of_row w1 x0 0 _ _ (0, 0) BX.out.r0
  have a1 := cell_of_row w1 x1 0 _ _ (0, 0) BX.out.r1; have a2 := cell_of_row w1 x1 1 _ _ (0, 0) BX.out.r1
  simp only [List.getElem?_toArray, List.getElem?_cons_succ, List.getElem?_cons_zero] at a0 a1 a2
  have OW := Lib.hid (owns_any th tl w1 H1.out.row)
  obtain ⟨ob, hob⟩ : ∃ x, own s p c th tl = x := ⟨_, rfl⟩
  rw [hob] at OW
  have HOB := Lib.hid hob
  clear hob
  go_wp2_with fail
  refine OW.out.mono ?_; rintro e w2 ⟨rfl, b2⟩
  dsimp only
  have H2 := Lib.hid (H1.out.below b2); have BX2 := Lib.hid (BX.out.below b2)
  have B2 := Lib.hid (below_next B1.out b2)
  clear b2 OW a0 a1 a2 H1 BX B1
  cases ob with
  | true =>
    have HS := Lib.hid (show stepR s p c L th tl = (s, true, 0) by unfold stepR; rw [if_pos HOB.out])
    clear HNE HOB
    have a0 := cell_of_row w2 x0 0 _ _ (0, 0) BX2.out.r0
    have t0 := H2.out.row.at_ 0; have t1 := H2.out.row.at_ 1; have t2 := H2.out.row.at_ 2
    have c0 := cell_of_row w2 x2 0 _ _ (0, 0) BX2.out.r2; have c1 := cell_of_row w2 x2 1 _ _ (0, 0) BX2.out.r2; have c2 := cell_of_row w2 x2 2 _ _ (0, 0) BX2.out.r2; have c3 := cell_of_row w2 x3 0 _ _ (0, 0) BX2.out.r3; have c4 := cell_of_row w2 x4 0 _ _ (0, 0) BX2.out.r4
    have f0 := frozen_of_row w2 x2 0 _ _ BX2.out.r2; have f1 := frozen_of_row w2 x2 1 _ _ BX2.out.r2; have f2 := frozen_of_row w2 x2 2 _ _ BX2.out.r2; have f3 := frozen_of_row w2 x3 0 _ _ BX2.out.r3; have f4 := frozen_of_row w2 x4 0 _ _ BX2.out.r4
    simp only [rowT, List.getElem?_toArray, List.getElem?_cons_succ, List.getElem?_cons_zero] at a0 t0 t1 t2 c0 c1 c2 c3 c4
    have n23 : x2 ≠ x3 := by have := XX.out; omega
    have n24 : x2 ≠ x4 := by have := XX.out; omega
    have n34 : x3 ≠ x4 := by have := XX.out; omega
    have n32 := n23.symm; have n42 := n24.symm; have n43 := n34.symm
    go_wp2_with fail
    obtain ⟨q5, k5⟩ := BX2.out.laid n23 n24 n34 (by have := XX.out; omega) (by have := XX.out; omega) (s, true, 0)
    exact bodyM_ret (step_results q5 rfl rfl rfl) rfl ⟨by rw [HS.out], B2.out.trans (k5.below B2.out.size (by have := XX.out; intro g hg; simp only [List.mem_cons, List.not_mem_nil, or_false] at hg; omega))⟩
  | false =>
    obtain ⟨pq, hpq⟩ : ∃ x, (th == c.h && tl == c.l) = x := ⟨_, rfl⟩
    obtain ⟨bt, hbt⟩ : ∃ x, btw s.h s.l th tl c.h c.l = x := ⟨_, rfl⟩
    have EP := Lib.hid (eql_pos th tl c.h c.l)
    have CB := Lib.hid (fun d os => Calls.regrown_of (between_any s.h s.l th tl c.h c.l (grow (redrawn w2 d) os)))
    rw [hpq] at EP
    rw [hbt] at CB
    have HPQ := Lib.hid hpq; have HBT := Lib.hid hbt
    clear hpq hbt
    have a0 := cell_regrown (cell_of_row w2 x0 0 _ _ (0, 0) BX2.out.r0)
    have a1 := cell_regrown (cell_of_row w2 x1 0 _ _ (0, 0) BX2.out.r1); have a2 := cell_regrown (cell_of_row w2 x1 1 _ _ (0, 0) BX2.out.r1)
    have t1 := H2.out.row.at_ 1; have t2 := H2.out.row.at_ 2; have t7 := H2.out.row.at_ 7; have t8 := H2.out.row.at_ 8
    simp only [rowT, List.getElem?_toArray, List.getElem?_cons_succ, List.getElem?_cons_zero, List.getElem_toArray, List.getElem_cons_zero, List.getElem_cons_succ] at a0 a1 a2 t1 t2 t7 t8
    replace t1 := cell_regrown t1; replace t2 := cell_regrown t2; replace t7 := cell_regrown t7; replace t8 := cell_regrown t8
    cases pq
    all_goals
      have EQ := EP.out
      go_upto_region 5 with (fail)
      refine wp_region_quiet_below (by kernel_rfl) (by kernel_rfl) ?_
      repeat (go_big_quiet_step (first | exact CB.out _ _))
      refine wpQuiet_nil ?_
      intro _ hw'
      obtain ⟨⟨dq, osq⟩, hw''⟩ := hw'
      subst hw''
      have lk := below_regrown w2 dq osq
      have H3 := Lib.hid (H2.out.below lk); have BX3 := Lib.hid (BX2.out.below lk)
      have B3 := Lib.hid (below_next B2.out lk)
      clear lk EQ a0 a1 a2 t1 t2 t7 t8 CB
      generalize grow (redrawn w2 dq) osq = w3 at *
    · cases bt with
      | true =>
        have HS := Lib.hid (show stepR s p c L th tl = (c, true, 0) by unfold stepR; rw [HOB.out, HPQ.out, HBT.out]; rfl)
        clear HNE HOB HPQ HBT
        have a0 := cell_of_row w3 x0 0 _ _ (0, 0) BX3.out.r0
        have t6 := H3.out.row.at_ 6; have t7 := H3.out.row.at_ 7; have t8 := H3.out.row.at_ 8
        have c0 := cell_of_row w3 x2 0 _ _ (0, 0) BX3.out.r2; have c1 := cell_of_row w3 x2 1 _ _ (0, 0) BX3.out.r2; have c2 := cell_of_row w3 x2 2 _ _ (0, 0) BX3.out.r2; have c3 := cell_of_row w3 x3 0 _ _ (0, 0) BX3.out.r3; have c4 := cell_of_row w3 x4 0 _ _ (0, 0) BX3.out.r4
        have f0 := frozen_of_row w3 x2 0 _ _ BX3.out.r2; have f1 := frozen_of_row w3 x2 1 _ _ BX3.out.r2; have f2 := frozen_of_row w3 x2 2 _ _ BX3.out.r2; have f3 := frozen_of_row w3 x3 0 _ _ BX3.out.r3; have f4 := frozen_of_row w3 x4 0 _ _ BX3.out.r4
        simp only [rowT, List.getElem?_toArray, List.getElem?_cons_succ, List.getElem?_cons_zero] at a0 t6 t7 t8 c0 c1 c2 c3 c4
        have n23 : x2 ≠ x3 := by have := XX.out; omega
        have n24 : x2 ≠ x4 := by have := XX.out; omega
        have n34 : x3 ≠ x4 := by have := XX.out; omega
        have n32 := n23.symm; have n42 := n24.symm; have n43 := n34.symm
        go_wp2_with fail
        obtain ⟨q5, k5⟩ := BX3.out.laid n23 n24 n34 (by have := XX.out; omega) (by have := XX.out; omega) (c, true, 0)
        exact bodyM_ret (step_results q5 rfl rfl rfl) rfl ⟨by rw [HS.out], B3.out.trans (k5.below B3.out.size (by have := XX.out; intro g hg; simp only [List.mem_cons, List.not_mem_nil, or_false] at hg; omega))⟩
      | false =>
        have hl : L ≠ [] := HNE.out.resolve_left (by rw [HOB.out]; decide)
        obtain ⟨g, hao, _, hcap, hgB, hgl⟩ := owns_none H3.out.own (List.length_pos_iff.2 hl)
        subst hao
        obtain ⟨m, hm⟩ : ∃ m, L.length = m := ⟨_, rfl⟩
        have t9 := H3.out.row.at_ 9
        simp only [rowT, List.getElem?_toArray, List.getElem?_cons_succ, List.getElem?_cons_zero] at t9
        rw [hm] at t9
        have HM := Lib.hid hm
        have a0 := cell_of_row w3 x0 0 _ _ (0, 0) BX3.out.r0
        simp only [List.getElem?_toArray, List.getElem?_cons_zero] at a0
        have HGL := Lib.hid hgl
        clear hl hgB hcap hm hgl HNE
        have BA := Lib.hid (back_any (some ⟨g, 0, none⟩) m cap w3)
        go_wp2_with fail
        refine BA.out.mono ?_; rintro e w4 ⟨rfl, rfl⟩
        have bB := Boxed.new w3 39 (.slice (some ⟨g, 0, none⟩) m cap)
        have b4 := below_alloc (Below.refl w3.heap.size w3) (.cells #[.slice (some ⟨g, 0, none⟩) m cap] 39)
        obtain ⟨bs, hbs⟩ : ∃ y, y = w3.heap.size := ⟨_, rfl⟩
        rw [← hbs] at bB ⊢
        have H4 := Lib.hid (H3.out.below b4); have BX4 := Lib.hid (BX3.out.below b4)
        have B4 := Lib.hid (below_next B3.out b4)
        have BB := Lib.hid bB
        clear a0 t9 b4 bB hbs BA
        generalize w3.alloc (.cells #[.slice (some ⟨g, 0, none⟩) m cap] 39) = w4 at *
        go_wp2_with fail
        have hsz4 := BB.out.lt
        have HC4 := Lib.hid (show ∀ j, j < m → ∀ q, q < 3 → w4.cell? ⟨g, j * 3 + q, none⟩ = ((L[j]?.getD p0).list)[q]? from fun j hj q hq => owns_at3 H4.out.own (by rw [HM.out]; exact hj) hq)
        have HGB := Lib.hid (H4.out.blocks g (List.mem_cons_of_mem _ (by simp [blk])))
        refine (wpIn_wide (n := 6)).1 ?_
        refine wpIn_rangeFunc_ownH (F := Fence.wide) (n := 6) rfl (by decide) (gf := 41) (lb := #[.pointer (some ⟨bs, 0, none⟩)]) rfl trivial (enters_of Try.func41 (by kernel_rfl) rfl)
          (back_stops Fence.wide 5 trivial rfl (by decide) bs w4.heap.size g m cap (fun j => L[j]?.getD p0) (by have := HLL.out; have := HM.out; omega) w4 HGB.out.2 hsz4 (Nat.le_refl _) BB.out.cell HC4.out) belowK_t (belowK_b (Nat.le_refl _)) (Below.refl _ _) (fun _ => rfl)
          (fun pre W => (∀ y ∈ pre, btw s.h s.l y.2.h y.2.l th tl = false) ∧ Below w4.heap.size w4 W)
          (fun k pre W => (k = .ret ∧ ∃ ini x, pre = ini ++ [x] ∧ (∀ y ∈ ini, btw s.h s.l y.2.h y.2.l th tl = false) ∧ btw s.h s.l x.2.h x.2.l th tl = true ∧ Box5 W b th tl x0 x1 x2 x3 x4 (x.2, false, 0)) ∧ Below w.heap.size w4 W)
          (OwnFrom.and (fun _ _ _ _ hs _ _ => hs) (ownFrom_below (Nat.le_refl _) (Nat.le_refl _)))
          (fun k => OwnFrom.and (Own.from (fun s A B row hs hg hr => by obtain ⟨hc, ini, x, e1, e2, e3, e4⟩ := hs; exact ⟨hc, ini, x, e1, e2, e3, e4.kept hg hr⟩) _) (ownFrom_below B4.out.size B4.out.size))
          ⟨by simp, Below.refl _ _⟩
          (fun x a' W => ∃ Bx, w4.heap.size ≤ Bx ∧ W.heap[Bx]? = some (.cells #[.int .i64 x.2.n, .int .u64 x.2.h, .int .u64 x.2.l] 26 (0, 0)) ∧ a' = { tmps := #[.pointer (some ⟨b, 0, none⟩), pos th tl, .pointer (some ⟨x0, 0, none⟩), .pointer (some ⟨x1, 0, none⟩), .pointer (some ⟨x2, 0, none⟩), .pointer (some ⟨x3, 0, none⟩), .pointer (some ⟨x4, 0, none⟩), undef, .pointer (some ⟨Bx, 0, none⟩), .bool false, .pointer (some ⟨b, 0, none⟩), .bool false, undef, .bool false, .pointer (some ⟨b, 0, none⟩), .agg #[.int .u64 th, .int .u64 tl], .bool false, undef, undef, undef, undef, .bool false, .agg #[.int .u64 th, .int .u64 tl], .pointer (some ⟨b, 0, none⟩), .pointer (some ⟨b, 0, none⟩), .pointer (some ⟨b, 6, none⟩), .pointer (some ⟨b, 7, none⟩), .agg #[.int .u64 c.h, .int .u64 c.l], .bool false, .bool false, .pointer (some ⟨b, 0, none⟩), .pointer (some ⟨b, 0, none⟩), .pointer (some ⟨b, 0, none⟩), .pointer (some ⟨b, 1, none⟩), .agg #[.int .u64 s.h, .int .u64 s.l], .agg #[.int .u64 th, .int .u64 tl], .pointer (some ⟨b, 0, none⟩), .pointer (some ⟨b, 0, none⟩), .pointer (some ⟨b, 6, none⟩), .pointer (some ⟨b, 7, none⟩), .agg #[.int .u64 c.h, .int .u64 c.l], .bool false, .bool false, undef, undef, undef, undef, .pointer (some ⟨b, 0, none⟩), .pointer (some ⟨b, 0, none⟩), .pointer (some ⟨b, 9, none⟩), .slice (some ⟨g, 0, none⟩) m cap, .func (.func 41) #[] #[.pointer (some ⟨bs, 0, none⟩)], .int .i64 (x.1 : Int), .agg #[.int .i64 x.2.n, .int .u64 x.2.h, .int .u64 x.2.l], undef, undef, undef, undef, undef, undef, undef, undef, undef, undef, undef], defers := [] })
          (fun x a' _ X Y row hs hg hr => by obtain ⟨Bx, h1, h2, h3⟩ := hs; exact ⟨Bx, h1, row_kept h2 hg (fun r e => (hr r e).2), h3⟩)
          ?assign ?body ?done ?stop
        case assign =>
          rintro l pre x W K ⟨hp, hB⟩ hK
          gi_wp2
          exact hK _ _ ((KeepsOthers.alloc _ _).from _) ((Below.refl _ W).alloc hB.size _) ⟨hp, hB.alloc hB.size _⟩ ⟨W.heap.size, hB.size, heap_alloc_new W _, rfl⟩
        case body =>
          rintro l pre x a' W hl ⟨r, hr⟩ ⟨hp, hB⟩ ⟨Bx, hBx, bX, rfl⟩ hlt
          have H5 := H4.out.below hB
          have Q5 := BX4.out.below hB
          have a0 := cell_of_row W x0 0 _ _ (0, 0) Q5.r0
          have e1 := cell_of_row W x1 0 _ _ (0, 0) Q5.r1; have e2 := cell_of_row W x1 1 _ _ (0, 0) Q5.r1
          have t1 := H5.row.at_ 1; have t2 := H5.row.at_ 2
          have p1 := cell_of_row W Bx 1 _ _ (0, 0) bX; have p2 := cell_of_row W Bx 2 _ _ (0, 0) bX
          simp only [rowT, List.getElem?_toArray, List.getElem?_cons_succ, List.getElem?_cons_zero] at a0 e1 e2 t1 t2 p1 p2
          have hmx : Try.prog.follows .mixedOrders = true := by kernel_rfl
          have CB := Lib.hid (fun v => between_any s.h s.l x.2.h x.2.l th tl v)
          obtain ⟨bv, hbv⟩ : ∃ y, btw s.h s.l x.2.h x.2.l th tl = y := ⟨_, rfl⟩
          rw [hbv] at CB
          have HBV := Lib.hid hbv
          have H5' := Lib.hid H5; have Q5' := Lib.hid Q5; have HP := Lib.hid hp; have HB := Lib.hid hB; have BX' := Lib.hid bX
          clear hbv H5 Q5 hp hB bX hr
          replace a0 := cell_regrown a0; replace e1 := cell_regrown e1; replace e2 := cell_regrown e2; replace t1 := cell_regrown t1; replace t2 := cell_regrown t2; replace p1 := cell_regrown p1; replace p2 := cell_regrown p2
          have CB2 := Lib.hid (fun d os => CallsIn.regrown_of (F := Fence.wide) (r := 3) (callsIn_wide.2 (CB.out (grow (redrawn W d) os))))
          gi_wp2
          refine round_quiet_below (F := Fence.wide) (lp := l) rfl (by kernel_rfl) (by kernel_rfl) (by kernel_rfl) ?_
          repeat (
            refine wpQuietIn_step (fun _ _ _ _ => trivial) (fun K hK => ?_)
            go_simp
            first
            | (refine hK _ ?_; clear hK K)
            | (apply Exists.intro; refine ⟨fun _ => ?_, hK _ ?_⟩; exact CB2.out _ _; clear hK K))
          refine wpQuietIn_nil ?_
          intro _ hw'
          obtain ⟨⟨dq, osq⟩, hw''⟩ := hw'
          subst hw''
          have lk := below_regrown W dq osq
          clear a0 e1 e2 t1 t2 p1 p2 CB CB2
          generalize grow (redrawn W dq) osq = W2 at *
          have H6 := Lib.hid (H5'.out.below lk); have Q6 := Lib.hid (Q5'.out.below lk)
          have bX6 := Lib.hid (row_keep BX'.out (Keep.of_below lk []) (by simp))
          have KF : Hid (KeepsFrom w4.heap.size W W2) := Lib.hid ⟨lk.size, fun k o _ hk _ => (lk.block k (Array.getElem?_eq_some_iff.1 hk).1).trans hk⟩
          have LK := Lib.hid lk
          clear lk
          cases bv with
          | false =>
            gi_wp2
            exact ⟨KF.out, LK.out.mono HB.out.size, fun y hy => (List.mem_append.1 hy).elim (HP.out y) (fun e => by simp only [List.mem_singleton] at e; rw [e]; exact HBV.out), HB.out.trans (LK.out.mono HB.out.size)⟩
          | true =>
            have p0 := cell_of_row W2 Bx 0 _ _ (0, 0) bX6.out; have p1 := cell_of_row W2 Bx 1 _ _ (0, 0) bX6.out; have p2 := cell_of_row W2 Bx 2 _ _ (0, 0) bX6.out
            have c0 := cell_of_row W2 x2 0 _ _ (0, 0) Q6.out.r2; have c1 := cell_of_row W2 x2 1 _ _ (0, 0) Q6.out.r2; have c2 := cell_of_row W2 x2 2 _ _ (0, 0) Q6.out.r2; have c3 := cell_of_row W2 x3 0 _ _ (0, 0) Q6.out.r3; have c4 := cell_of_row W2 x4 0 _ _ (0, 0) Q6.out.r4
            have f0 := frozen_of_row W2 x2 0 _ _ Q6.out.r2; have f1 := frozen_of_row W2 x2 1 _ _ Q6.out.r2; have f2 := frozen_of_row W2 x2 2 _ _ Q6.out.r2; have f3 := frozen_of_row W2 x3 0 _ _ Q6.out.r3; have f4 := frozen_of_row W2 x4 0 _ _ Q6.out.r4
            simp only [List.getElem?_toArray, List.getElem?_cons_succ, List.getElem?_cons_zero] at p0 p1 p2 c0 c1 c2 c3 c4
            have n23 : x2 ≠ x3 := by have := XX.out; omega
            have n24 : x2 ≠ x4 := by have := XX.out; omega
            have n34 : x3 ≠ x4 := by have := XX.out; omega
            have n32 := n23.symm; have n42 := n24.symm; have n43 := n34.symm
            gi_wp2
            obtain ⟨q5, k5⟩ := Q6.out.laid n23 n24 n34 (by have := XX.out; omega) (by have := XX.out; omega) (x.2, false, 0)
            have hkb : Below w.heap.size W2 (laid5 W2 x2 x3 x4 (x.2, false, 0)) := k5.below (Nat.le_trans (Nat.le_trans B4.out.size HB.out.size) LK.out.size) (by have := XX.out; intro g hg; simp only [List.mem_cons, List.not_mem_nil, or_false] at hg; omega)
            exact ⟨KF.out.trans (((((KeepsOthers.setCell _ _ _).trans (KeepsOthers.setCell _ _ _)).trans (KeepsOthers.setCell _ _ _)).trans (KeepsOthers.setCell _ _ _)).trans (KeepsOthers.setCell _ _ _) |>.from _), ⟨rfl, pre, x, rfl, HP.out, HBV.out, q5⟩, ((HB.out.mono B4.out.size).trans (LK.out.mono (Nat.le_trans B4.out.size HB.out.size))).trans hkb⟩
        case done =>
          rintro D ys W hD rfl ⟨hne, hB⟩ hK
          have Q5 := BX4.out.below hB
          have HS := Lib.hid (show stepR s p c L th tl = (p0, false, 131) by unfold stepR; rw [HOB.out, HPQ.out, HBT.out, find_none (hne := by rw [HM.out]; exact hne)]; rfl)
          have c0 := cell_of_row W x2 0 _ _ (0, 0) Q5.r2; have c1 := cell_of_row W x2 1 _ _ (0, 0) Q5.r2; have c2 := cell_of_row W x2 2 _ _ (0, 0) Q5.r2; have c3 := cell_of_row W x3 0 _ _ (0, 0) Q5.r3; have c4 := cell_of_row W x4 0 _ _ (0, 0) Q5.r4
          have f0 := frozen_of_row W x2 0 _ _ Q5.r2; have f1 := frozen_of_row W x2 1 _ _ Q5.r2; have f2 := frozen_of_row W x2 2 _ _ Q5.r2; have f3 := frozen_of_row W x3 0 _ _ Q5.r3; have f4 := frozen_of_row W x4 0 _ _ Q5.r4
          simp only [List.getElem?_toArray, List.getElem?_cons_succ, List.getElem?_cons_zero] at c0 c1 c2 c3 c4
          have n23 : x2 ≠ x3 := by have := XX.out; omega
          have n24 : x2 ≠ x4 := by have := XX.out; omega
          have n34 : x3 ≠ x4 := by have := XX.out; omega
          have n32 := n23.symm; have n42 := n24.symm; have n43 := n34.symm
          go_wp2_with fail
          obtain ⟨q5, k5⟩ := Q5.laid n23 n24 n34 (by have := XX.out; omega) (by have := XX.out; omega) (p0, false, 131)
          have hK' : (laid5 W x2 x3 x4 (p0, false, 131)).heap[D]? = some (.deferred (some [])) := (k5.block D (Array.getElem?_eq_some_iff.1 hK).1 (by have := XX.out; have := B4.out.size; have := Q5.r4; have h4 := (Array.getElem?_eq_some_iff.1 BX4.out.r4).1; simp; omega)).trans hK
          refine ⟨by simp, .inl ⟨_, _, rfl, run_takeDeferred hK', ?_⟩⟩
          have q6 := q5.kept (grownBy_putObj' _ D (.deferred none)) (fun r e => by cases e; exact ⟨_, hK', rfl⟩)
          exact ⟨_, step_results q6 rfl rfl rfl, by rw [HS.out], ((B4.out.trans (hB.mono B4.out.size)).trans (k5.below (Nat.le_trans B4.out.size hB.size) (by have := XX.out; intro g hg; simp only [List.mem_cons, List.not_mem_nil, or_false] at hg; omega))).trans (belowK_b (w := w) (Nat.le_refl _) _ D _ _ (Nat.le_trans B4.out.size hD) hK' rfl rfl)⟩
        case stop =>
          rintro D k pre W hD ⟨kk, hkk, rfl⟩ ⟨⟨rfl, ini, x, e1, e2, e3, q5⟩, hB⟩ hK
          have HS := Lib.hid (show stepR s p c L th tl = (x.2, false, 0) by unfold stepR; rw [HOB.out, HPQ.out, HBT.out, find_some (e1 := by rw [HM.out]; exact e1) e2 e3]; rfl)
          gi_wp2
          refine ⟨by simp, .inl ⟨_, _, rfl, run_takeDeferred hK, ?_⟩⟩
          have q6 := q5.kept (grownBy_putObj' _ D (.deferred none)) (fun r e => by cases e; exact ⟨_, hK, rfl⟩)
          exact ⟨_, step_results q6 rfl rfl rfl, by rw [HS.out], (B4.out.trans hB).trans (belowK_b (w := w) (Nat.le_refl _) _ D _ _ (Nat.le_trans B4.out.size hD) hK rfl rfl)⟩
    · have HS := Lib.hid (show stepR s p c L th tl = (c, true, 0) by unfold stepR; rw [HOB.out, HPQ.out, HBT.out]; rfl)
      clear HNE HOB HPQ HBT
      have a0 := cell_of_row w3 x0 0 _ _ (0, 0) BX3.out.r0
      have t6 := H3.out.row.at_ 6; have t7 := H3.out.row.at_ 7; have t8 := H3.out.row.at_ 8
      have c0 := cell_of_row w3 x2 0 _ _ (0, 0) BX3.out.r2; have c1 := cell_of_row w3 x2 1 _ _ (0, 0) BX3.out.r2; have c2 := cell_of_row w3 x2 2 _ _ (0, 0) BX3.out.r2; have c3 := cell_of_row w3 x3 0 _ _ (0, 0) BX3.out.r3; have c4 := cell_of_row w3 x4 0 _ _ (0, 0) BX3.out.r4
      have f0 := frozen_of_row w3 x2 0 _ _ BX3.out.r2; have f1 := frozen_of_row w3 x2 1 _ _ BX3.out.r2; have f2 := frozen_of_row w3 x2 2 _ _ BX3.out.r2; have f3 := frozen_of_row w3 x3 0 _ _ BX3.out.r3; have f4 := frozen_of_row w3 x4 0 _ _ BX3.out.r4
      simp only [rowT, List.getElem?_toArray, List.getElem?_cons_succ, List.getElem?_cons_zero] at a0 t6 t7 t8 c0 c1 c2 c3 c4
      have n23 : x2 ≠ x3 := by have := XX.out; omega
      have n24 : x2 ≠ x4 := by have := XX.out; omega
      have n34 : x3 ≠ x4 := by have := XX.out; omega
      have n32 := n23.symm; have n42 := n24.symm; have n43 := n34.symm
      go_wp2_with fail
      obtain ⟨q5, k5⟩ := BX3.out.laid n23 n24 n34 (by have := XX.out; omega) (by have := XX.out; omega) (c, true, 0)
      exact bodyM_ret (step_results q5 rfl rfl rfl) rfl ⟨by rw [HS.out], B3.out.trans (k5.below B3.out.size (by have := XX.out; intro g hg; simp only [List.mem_cons, List.not_mem_nil, or_false] at hg; omega))⟩
end Go.Proofs.Ytokmchkoojeadaa
