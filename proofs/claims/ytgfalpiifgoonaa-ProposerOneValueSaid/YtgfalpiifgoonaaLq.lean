/- Accepted. -/
import Derived.Test.YtgfalpiifgoonaaLp
import Derived.Lib.SliceRun
namespace Go.Proofs.Ytgfalpiifgoonaa
open Go.RowKit Go.Sort
set_option linter.unusedVariables false
set_option linter.unusedSectionVars false
set_option linter.unusedSimpArgs false
set_option maxRecDepth 100000

def layXs (xs : List Value) : Nat → List Value → List Value
  | _, [] => xs
  | q, v :: r => layXs (xs.set q v) (q + 1) r
theorem layXs_at (vs : List Value) : ∀ (xs : List Value) (q j : Nat), q + vs.length ≤ xs.length → (layXs xs q vs)[j]? = if q ≤ j ∧ j < q + vs.length then vs[j - q]? else xs[j]? := by
  induction vs with
  | nil => intro xs q j _; rw [layXs, if_neg (by simp)]
  | cons v r ih =>
    intro xs q j h
    simp only [List.length_cons] at h ⊢
    rw [layXs, ih (xs.set q v) (q + 1) j (by rw [List.length_set]; omega)]
    by_cases e : j = q
    · subst e
      rw [if_neg (by omega), if_pos (by omega), List.getElem?_set_self (by omega), Nat.sub_self]
      rfl
    · by_cases h2 : q + 1 ≤ j ∧ j < q + 1 + r.length
      · rw [if_pos h2, if_pos (by omega), show j - q = j - (q + 1) + 1 by omega]
        rfl
      · rw [if_neg h2, if_neg (by omega), List.getElem?_set_ne (by omega)]
theorem keep_puts (vs : List Value) : ∀ (w : World) (g q : Nat), Keep [g] w (w.setCells g q vs) := by
  induction vs with
  | nil => intro w g q; exact Keep.refl _ _
  | cons v r ih => intro w g q; exact (Keep.setCell w ⟨g, q, none⟩ v).trans (ih _ _ _)
theorem row_puts (t : TypeId) (g : Nat) (vs : List Value) : ∀ (w : World) (xs : List Value) (q : Nat), w.heap[g]? = some (.cells ⟨xs⟩ t (0, 0)) → (w.setCells g q vs).heap[g]? = some (.cells ⟨layXs xs q vs⟩ t (0, 0)) := by
  induction vs with
  | nil => intro w xs q h; exact h
  | cons v r ih =>
    intro w xs q h
    have h1 : (w.setCell ⟨g, q, none⟩ v).heap[g]? = some _ := heap_setCell_same w g q _ _ _ h
    rw [List.setIfInBounds_toArray] at h1
    exact ih _ _ _ h1
theorem clear_nine (w : World) (b o c : Nat) (hc : ∀ j, j < 36 → (w.cell? ⟨b, o + j, none⟩).isSome = true) (hf : ∀ j, j < 36 → w.frozen? ⟨b, o + j, none⟩ = false) (ty : TypeId) :
    (Builtin.clear_ #[36] ty #[.slice (some ⟨b, o, none⟩) 9 c]).run Try.prog w = .ok (.tuple #[]) (w.setCells b o (fl cA none9)) := by
  have hz : ∀ w, (zeroValue 42).run Try.prog w = .ok (.agg #[.bool false, .int .u32 0, .int .u8 0, .string ⟨#[]⟩]) w := fun w => by kernel_rfl
  have h36 : (fl cA none9).length = 36 := rfl
  have h1c : (fl cA none9).all (·.oneCell') = true := by kernel_rfl
  have hst := run_storeCells_cells (P := Try.prog) b o (fl cA none9) 0 w (fun j hj => by rw [Nat.add_zero]; exact hc j (by rw [h36] at hj; exact hj)) (fun j hj => by rw [Nat.add_zero]; exact hf j (by rw [h36] at hj; exact hj)) (List.all_eq_true.1 h1c)
  simp only [Nat.add_zero] at hst
  have hr : (Builtin.zeroCells #[.bool false, .int .u32 0, .int .u8 0, .string ⟨#[]⟩] 9).toList = fl cA none9 := by kernel_rfl
  simp [Builtin.clear_, run_underlying Try.underlying36, hz, Value.cells, hr, hst]
section
variable {w w' : World} {B ln gm n c : Nat} {last : List Ac} {ch old : Ac} {b : Bl} {v : ByteArray}
theorem lrow_clear (hl : last.length = 9) : layXs (lrow n last gm ch) 1 (fl cA none9) = lrow n none9 gm ch := by
  have h1 : (fl cA last).length = 36 := by rw [fl_len cA_len, hl]
  have h2 : (fl cA none9).length = 36 := by rw [fl_len cA_len]; rfl
  have h3 : (lrow n last gm ch).length = 42 := by unfold lrow; simp [h1]
  apply List.ext_getElem?
  intro j
  rw [layXs_at _ _ _ _ (by rw [h2, h3]; omega), h2]
  unfold lrow
  generalize fl cA none9 = ys at h2
  generalize fl cA last = xs at h1
  by_cases h : 1 ≤ j ∧ j < 1 + 36
  · rw [if_pos h]
    obtain ⟨j, rfl⟩ : ∃ i, j = i + 1 := ⟨j - 1, by omega⟩
    rw [List.getElem?_cons_succ, List.getElem?_append_left (by omega), Nat.add_sub_cancel]
  · rw [if_neg h]
    cases j with
    | zero => rfl
    | succ j =>
      rw [List.getElem?_cons_succ, List.getElem?_cons_succ, List.getElem?_append_right (by omega), List.getElem?_append_right (by omega), h1, h2]
theorem RowL.clear (h : RowL w ln n last gm ch) : RowL (w.setCells ln 1 (fl cA none9)) ln n none9 gm ch := by
  refine ⟨?_, by simp⟩
  rw [row_puts _ ln _ w _ 1 h.1, lrow_clear h.2]
theorem RowL.some_ (h : RowL w ln n last gm ch) (j : Nat) (hj : j < 36) : (w.cell? ⟨ln, 1 + j, none⟩).isSome = true := by
  have h1 : (fl cA last).length = 36 := by rw [fl_len cA_len, h.2]
  have h3 : (lrow n last gm ch).length = 42 := by unfold lrow; simp [h1]
  rw [RowL.cell h, List.getElem?_eq_getElem (by omega)]; rfl
theorem layA_row {bx : Nat} {a x : Ac} (h : RowA w bx a) : RowA (layA w bx x) bx x :=
  heap_setCell_same _ bx 3 _ _ _ (heap_setCell_same _ bx 2 _ _ _ (heap_setCell_same _ bx 1 _ _ _ (heap_setCell_same w bx 0 _ _ _ h)))
theorem cpKeep {bx : Nat} {T : List Nat} (h : w.cell? ⟨bx, 0, none⟩ = some (.int .u32 b.round) ∧ w.cell? ⟨bx, 1, none⟩ = some (.int .u8 b.node) ∧ bx < w.heap.size) (k : Keep T w w') (hn : bx ∉ T) : w'.cell? ⟨bx, 0, none⟩ = some (.int .u32 b.round) ∧ w'.cell? ⟨bx, 1, none⟩ = some (.int .u8 b.node) ∧ bx < w'.heap.size :=
  ⟨(k.cell h.2.2 hn).trans h.1, (k.cell h.2.2 hn).trans h.2.1, Nat.lt_of_lt_of_le h.2.2 k.size⟩
abbrev layC (w : World) (ln : Nat) (a : Ac) : World := (((w.setCell ⟨ln, 38, none⟩ (.bool a.is)).setCell ⟨ln, 39, none⟩ (.int .u32 a.b.round)).setCell ⟨ln, 40, none⟩ (.int .u8 a.b.node)).setCell ⟨ln, 41, none⟩ (.string a.v)
theorem layC_keep (w : World) (ln : Nat) (a : Ac) : Keep [ln] w (layC w ln a) :=
  (((Keep.setCell w ⟨ln, 38, none⟩ _).trans (Keep.setCell _ ⟨ln, 39, none⟩ _)).trans (Keep.setCell _ ⟨ln, 40, none⟩ _)).trans (Keep.setCell _ ⟨ln, 41, none⟩ _)
theorem layC_row {a : Ac} (h : RowL w ln n last gm ch) : RowL (layC w ln a) ln n last gm a := by
  refine ⟨?_, h.2⟩
  have h1 : (layC w ln a).heap[ln]? = some _ := heap_setCell_same _ ln 41 _ _ _ (heap_setCell_same _ ln 40 _ _ _ (heap_setCell_same _ ln 39 _ _ _ (heap_setCell_same w ln 38 _ _ _ h.1)))
  rw [h1]
  simp only [List.setIfInBounds_toArray]
  have h2 : (fl cA last).length = 36 := by rw [fl_len cA_len, h.2]
  unfold lrow
  generalize fl cA last = xs at h2
  have e : ∀ (ys : List Value) (i : Nat) (v : Value), (.int .i64 (n : Int) :: (xs ++ ys)).set (37 + i) v = .int .i64 (n : Int) :: (xs ++ ys.set i v) := fun ys i v => by
    rw [show 37 + i = (36 + i) + 1 by omega, List.set_cons_succ, List.set_append_right _ _ (by omega), h2, Nat.add_sub_cancel_left]
  have e1 := fun ys v => e ys 1 v
  have e2 := fun ys v => e ys 2 v
  have e3 := fun ys v => e ys 3 v
  have e4 := fun ys v => e ys 4 v
  rw [e1, e2, e3, e4]
  rfl
set_option maxHeartbeats 1600000 in
theorem accepted_no (fr : Int) (hno : ch.is = true ∨ fr < 0 ∨ (n : Int) ≤ fr) (w : World) (h : LnW w B ln gm n last ch c) :
    Calls Try.prog 16 #[.pointer (some ⟨ln, 0, none⟩), .int .i64 fr, b.ag, .string v] w fun e w' => e = .returned (.tuple #[.string ⟨#[]⟩, .bool false]) ∧ Below w.heap.size w w' := by
  have HB := Lib.hid (below_alloc (Below.refl w.heap.size w) (Bl.obj b))
  have t0 := h.below HB.out
  have c0 := RowL.at0 t0.row
  obtain ⟨_, c1, _⟩ := RowL.end t0.row
  simp only [Bl.obj] at c0 c1 HB
  clear t0 h
  obtain ⟨ci, ⟨cr, cn⟩, cv⟩ := ch
  simp only at c1 hno
  cases ci
  · by_cases h1 : fr < 0
    · clear hno
      go_enter Try.func16, Try.ntmps16
      go_wp2_with fail
      go_ret2
      exact ⟨rfl, HB.out⟩
    · have h2 : (n : Int) ≤ fr := by
        rcases hno with h | h | h
        · cases h
        · exact absurd h h1
        · exact h
      clear hno
      go_enter Try.func16, Try.ntmps16
      go_wp2_with fail
      go_ret2
      exact ⟨rfl, HB.out⟩
  · clear hno
    go_enter Try.func16, Try.ntmps16
    go_wp2_with fail
    go_ret2
    exact ⟨rfl, HB.out⟩
set_option maxHeartbeats 1600000 in
theorem accepted_old (k : Nat) (hk : k < n) (hold : last[k]? = some old) (hch : ch.is = false) (his : old.is = true) (hlow : low old.b b = false) (w : World) (h : LnW w B ln gm n last ch c) :
    Calls Try.prog 16 #[.pointer (some ⟨ln, 0, none⟩), .int .i64 (k : Int), b.ag, .string v] w fun e w' => e = .returned (.tuple #[.string ⟨#[]⟩, .bool false]) ∧ Below w.heap.size w w' := by
  have HIS := Lib.hid his
  have HL2 := Lib.hid (fun w => by have := less_any old.b b w; rw [hlow] at this; exact this)
  clear his hlow
  obtain ⟨W, hW⟩ : ∃ W, W = (w.alloc b.obj).alloc old.obj := ⟨_, rfl⟩
  have bW : Below w.heap.size w W := by rw [hW]; exact below_alloc (below_alloc (Below.refl _ _) _) _
  have hz : W.heap.size = w.heap.size + 2 := by rw [hW]; simp
  have ko : RowA W (w.heap.size + 1) old := by
    have := RowA.new (w.alloc b.obj) old
    rw [← hW, show (w.alloc b.obj).heap.size = w.heap.size + 1 by simp] at this; exact this
  have kb : Row2 W w.heap.size b := by
    have := (Row2.new w b).below (below_alloc (Below.refl _ _) old.obj)
    rw [← hW] at this; exact this
  have hk9 : k < 9 := by have := h.n9; omega
  have t0 := h.below (below_alloc (Below.refl w.heap.size w) (Bl.obj b))
  have c0 := RowL.at0 t0.row
  obtain ⟨_, c1, _⟩ := RowL.end t0.row
  obtain ⟨p0, p1, p2, p3⟩ := RowL.at_ t0.row k hk9 old hold
  rw [hch] at c1
  have k0 : (0 : Int) ≤ (k : Int) := by omega
  have k1d : decide (n ≤ k) = false := decide_eq_false (by omega)
  have k0d : decide ((k : Int) < 0) = false := decide_eq_false (by omega)
  have k1 : (k : Int) < (n : Int) := by omega
  have k2 : (k : Int) < 9 := by omega
  have T0 := Lib.hid (h.below bW)
  have BW := Lib.hid bW; have KO := Lib.hid ko; have KB := Lib.hid kb
  have HL := Lib.hid (show ln < w.heap.size ∧ gm < w.heap.size from ⟨h.hlt, h.glt⟩)
  have HZ := Lib.hid hz
  simp only [Bl.obj, Ac.obj] at c0 c1 p0 p1 p2 p3 hW
  clear t0 bW ko kb hold hch hz
  go_enter Try.func16, Try.ntmps16
  go_upto_region 4 with (fail)
  rw [← hW]
  clear hW c0 c1 p0 p1 p2 p3
  generalize hbi : w.heap.size = bi at *
  obtain ⟨o0, o1, o2, o3, _⟩ := RowA.all KO.out
  obtain ⟨d0, d1, _, _⟩ := Row2.all KB.out
  rw [HIS.out] at o0
  clear T0
  go_wp2_with fail
  refine (HL2.out _).mono ?_; rintro e w4 ⟨rfl, b4⟩
  have B4 := Lib.hid (BW.out.trans (b4.mono (by have := HZ.out; omega)))
  clear b4 o0 o1 o2 o3 d0 d1
  go_wp2_with fail
  go_ret2
  exact ⟨rfl, by rw [hbi]; exact B4.out⟩
/-- what Accepted answers and leaves -/
def AcEnd (w : World) (B ln gm n k : Nat) (last : List Ac) (now : Ac) (c : Nat) (e : Ending) (w' : World) : Prop :=
  Keep [ln, gm] w w' ∧ if n < 2 * occ (last.set k now) now then e = .returned (.tuple #[.string now.v, .bool true]) ∧ LnW w' B ln gm n none9 now (c + 1) else e = .returned (.tuple #[.string ⟨#[]⟩, .bool false]) ∧ LnW w' B ln gm n (last.set k now) a0 (c + 1)
set_option maxHeartbeats 6400000 in
theorem accepted_go (k : Nat) (hk : k < n) (hold : last[k]? = some old) (hch : ch.is = false) (how : old.is = false ∨ low old.b b = true) (hbo : b.Ok) (hv : v.size ≤ 281474976710656) (hcc : c < 100000) (w : World) (h : LnW w B ln gm n last ch c) (hcz : ch = a0) :
    Calls Try.prog 16 #[.pointer (some ⟨ln, 0, none⟩), .int .i64 (k : Int), b.ag, .string v] w (AcEnd w B ln gm n k last ⟨true, b, v⟩ c) := by
  have HOLD := Lib.hid hold
  have HIS := Lib.hid (show old.is = false ∨ old.is = true by cases old.is <;> simp)
  have HL2 := Lib.hid (show old.is = true → ∀ w, Calls Try.prog 23 #[old.b.ag, b.ag] w fun e w' => e = .returned (.bool true) ∧ Below w.heap.size w w' from fun hh w => by
    have := less_any old.b b w
    rw [show low old.b b = true from by
      rcases how with h | h
      · rw [h] at hh; cases hh
      · exact h] at this
    exact this)
  have CL := Lib.hid (fun w => clone_any v w hv)
  have HP := Lib.hid (LnW.mk (w := w) h.map h.row h.base h.gbase h.ne h.n1 h.n9 h.ok h.cv)
  have HCZ := Lib.hid hcz
  clear how hcz
  obtain ⟨W, hW⟩ : ∃ W, W = (w.alloc b.obj).alloc old.obj := ⟨_, rfl⟩
  have bW : Below w.heap.size w W := by rw [hW]; exact below_alloc (below_alloc (Below.refl _ _) _) _
  have hz : W.heap.size = w.heap.size + 2 := by rw [hW]; simp
  have ko : RowA W (w.heap.size + 1) old := by
    have := RowA.new (w.alloc b.obj) old
    rw [← hW, show (w.alloc b.obj).heap.size = w.heap.size + 1 by simp] at this; exact this
  have kb : Row2 W w.heap.size b := by
    have := (Row2.new w b).below (below_alloc (Below.refl _ _) old.obj)
    rw [← hW] at this; exact this
  have hk9 : k < 9 := by have := h.n9; omega
  have t0 := h.below (below_alloc (Below.refl w.heap.size w) (Bl.obj b))
  have c0 := RowL.at0 t0.row
  obtain ⟨_, c1, _⟩ := RowL.end t0.row
  obtain ⟨p0, p1, p2, p3⟩ := RowL.at_ t0.row k hk9 old hold
  rw [hch] at c1
  have k0 : (0 : Int) ≤ (k : Int) := by omega
  have k1d : decide (n ≤ k) = false := decide_eq_false (by omega)
  have k0d : decide ((k : Int) < 0) = false := decide_eq_false (by omega)
  have k1 : (k : Int) < (n : Int) := by omega
  have k2 : (k : Int) < 9 := by omega
  have T0 := Lib.hid (h.below bW)
  have BW := Lib.hid bW; have KO := Lib.hid ko; have KB := Lib.hid kb
  have HL := Lib.hid (show ln < w.heap.size ∧ gm < w.heap.size from ⟨h.hlt, h.glt⟩)
  have HZ := Lib.hid hz
  simp only [Bl.obj, Ac.obj] at c0 c1 p0 p1 p2 p3 hW
  clear t0 bW ko kb hold hch hz
  go_enter Try.func16, Try.ntmps16
  go_upto_region 4 with (fail)
  rw [← hW]
  clear hW c0 c1 p0 p1 p2 p3
  generalize hbi : w.heap.size = bi at *
  obtain ⟨o0, o1, o2, o3, _⟩ := RowA.all KO.out
  obtain ⟨d0, d1, _, _⟩ := Row2.all KB.out
  rcases HIS.out with his | his
  · rw [his] at o0
    go_upto_region 6 with (fail)
    have HS6 := Lib.hid (show ∀ W', Below W.heap.size W W' → LnW W' B ln gm n last ch c ∧ RowA W' (bi + 1) old ∧ Row2 W' bi b ∧ Below bi w W' from fun W' hb => ⟨T0.out.below hb, RowA.below KO.out hb, Row2.below KB.out hb, by have := BW.out; exact this.trans (hb.mono (by have := HZ.out; omega))⟩)
    generalize hw4 : W = w4 at *
    clear his
    clear T0 KO KB BW HL2
    obtain ⟨d0, d1, _, _⟩ := Row2.all (HS6.out w4 (Below.refl _ _)).2.2.1
    have hbl : bi < w4.heap.size := Row2.lt (HS6.out w4 (Below.refl _ _)).2.2.1
    have HSW := Lib.hid (show w4.cell? ⟨bi, 0, none⟩ = some (.int .u32 b.round) ∧ w4.cell? ⟨bi, 1, none⟩ = some (.int .u8 b.node) ∧ bi < w4.heap.size from ⟨d0, d1, hbl⟩)
    have HNB := Lib.hid (show bi ∉ [w4.heap.size] by simp; omega)
    go_cut [11] from 48 to 51 (fun s11 wx => ∃ bn, s11 = .pointer (some ⟨bn, 0, none⟩) ∧ RowA wx bn ⟨true, b, v⟩ ∧ Below w4.heap.size w4 wx ∧ w4.heap.size ≤ bn)
    case first =>
      go_region_held3 (fun w' => w'.cell? ⟨bi, 0, none⟩ = some (.int .u32 b.round) ∧ w'.cell? ⟨bi, 1, none⟩ = some (.int .u8 b.node) ∧ bi < w'.heap.size)
        (first | with_reducible assumption | with_reducible exact HS3.out | with_reducible exact cpKeep HS3.out (layA_keep w3 w4.heap.size ⟨true, b, v⟩) HNB.out | with_reducible exact cpKeep HS3.out (Keep.of_below (below_alloc (Below.refl w3.heap.size w3) _) []) (by simp) | with_reducible exact cpKeep HSW.out (Keep.of_below (below_alloc (Below.refl _ w4) _).drew []) (by simp) | with_reducible exact cpKeep HSW.out (Keep.of_below (Below.refl _ w4).drew []) (by simp))
        (first
          | (go_at_call 25; with_reducible refine (CL.out w4.drew).mono ?_; rintro e w3 ⟨rfl, b3⟩; have HB3 := Lib.hid (below_next (Below.refl w4.heap.size w4).drew b3); have HS3 := Lib.hid (cpKeep HSW.out (Keep.of_below HB3.out []) (by simp)); clear b3)
          | (go_at_call 25; with_reducible refine (CL.out (w4.alloc (.cells #[.bool false, .int .u32 0, .int .u8 0, .string ⟨#[]⟩] 42)).drew).mono ?_; rintro e w3 ⟨rfl, b3⟩; have HR3 := Lib.hid (RowA.below (RowA.below (RowA.new w4 a0) (Below.refl _ _).drew) b3); obtain ⟨n0, n1, n2, n3, g0, g1, g2, g3⟩ := RowA.all HR3.out; have HB3 := Lib.hid (below_next (below_alloc (Below.refl w4.heap.size w4) (Ac.obj a0)).drew b3); have HS3 := Lib.hid (cpKeep HSW.out (Keep.of_below HB3.out []) (by simp)); clear b3))
      all_goals go_wp2_with fail
      all_goals go_meet
      all_goals refine ⟨_, rfl, ?_, ?_, ?_⟩
      all_goals first
        | with_reducible exact HB3.out.size
        | with_reducible exact Nat.le_refl _
        | with_reducible exact below_alloc HB3.out _
        | (have q := HB3.out.trans ((layA_keep w3 w4.heap.size ⟨true, b, v⟩).below HB3.out.size (by simp)); simp only [layA] at q; (with_reducible exact q))
        | (have q := layA_row (x := ⟨true, b, v⟩) HR3.out; simp only [layA] at q; (with_reducible exact q))
        | (have q := RowA.new w3 ⟨true, b, v⟩; simp only [Ac.obj] at q; (with_reducible exact q))
    case rest =>
      obtain ⟨bn, rfl, hN, hB4, hbn⟩ := hcut
      obtain ⟨hT, hO, _, hBW⟩ := HS6.out wc hB4
      obtain ⟨m, hmc, hM⟩ := hT.map
      have hne := hT.ne
      have hn9 := hT.n9
      have hl9 : last.length = 9 := hT.row.2
      have hoc : ∀ (l : List Ac) x, l.length = 9 → occ l x ≤ 9 := fun l x h => by rw [← h]; exact List.countP_le_length
      have hk9 : k < 9 := by omega
      have ho1 : old.Ok := hT.ok old (List.mem_of_getElem? HOLD.out)
      have ho2 : (⟨true, b, v⟩ : Ac).Ok := ⟨hbo, by show v.size ≤ _; unfold maxLen; omega⟩
      have CR := Lib.hid (replace_any (now := ⟨true, b, v⟩) k m hk9 HOLD.out rfl ho1 ho2 (by omega) hne (fun x => hoc last x hl9) wc hT.row hM)
      have HBN := Lib.hid (show bn < wc.heap.size ∧ bn ≠ ln ∧ bn ≠ gm from ⟨RowA.lt hN, by have := HL.out; have := RowA.lt hO; have := Row2.lt (HS6.out w4 (Below.refl _ _)).2.2.1; omega, by have := HL.out; have := Row2.lt (HS6.out w4 (Below.refl _ _)).2.2.1; omega⟩)
      have HN := Lib.hid hN; have HBW := Lib.hid hBW; have HOC := Lib.hid (hoc (last.set k ⟨true, b, v⟩) ⟨true, b, v⟩ (by rw [List.length_set]; exact hl9))
      have HOK9 := Lib.hid (show ∀ x ∈ last.set k ⟨true, b, v⟩, x.Ok from fun x hx => by
        rcases List.mem_or_eq_of_mem_set hx with h1 | h1
        · exact hT.ok x h1
        · rw [h1]; exact ho2)
      have HO2 := Lib.hid ho2
      obtain ⟨o0, o1, o2, o3, _⟩ := RowA.all hO
      obtain ⟨n0, n1, n2, n3, _⟩ := RowA.all hN
      simp only [Ac.ag] at CR
      clear hT hO hBW hM hN hoc ho1 ho2 hB4 hbn HS6 HSW HNB d0 d1 hbl hl9 HOLD
      go_upto_region 7 with (fail)
      go_wp2_with fail
      refine CR.out.mono ?_; rintro e w7 ⟨rfl, r7, ⟨m7, hm7, M7⟩, k7⟩
      have hnb : bn ∉ [ln, gm] := by have := HBN.out; simp; omega
      have N7 : RowA w7 bn ⟨true, b, v⟩ := row_keep HN.out k7 hnb
      have K7 := Lib.hid ((show Keep [ln, gm] w wc from Keep.of_below (by rw [hbi]; exact HBW.out) _).trans k7)
      have R7 := Lib.hid r7; have MM7 := Lib.hid M7; have NN7 := Lib.hid N7
      obtain ⟨n0, n1, n2, n3, _⟩ := RowA.all N7
      have y0 := cell_regrown n0; have y1 := cell_regrown n1; have y2 := cell_regrown n2; have y3 := cell_regrown n3
      have z0 := cell_regrown (RowL.at0 r7); have z1 := cell_regrown (RowL.end r7).1
      have hlk := fun d os => (M7.keep (Keep.of_below (below_regrown w7 d os) []) (by simp)).look1 kAc ⟨true, b, v⟩ HO2.out
      simp only [cf_get (last.set k ⟨true, b, v⟩) ⟨true, b, v⟩ rfl, Ac.ag] at hlk
      have hoc := HOC.out
      have MJ := Lib.hid (fun d os => Calls.regrown_of (same_below (majority_any (occ (last.set k ⟨true, b, v⟩) ⟨true, b, v⟩) n hoc (by omega) (grow (redrawn w7 d) os))))
      generalize hcq : occ (last.set k ⟨true, b, v⟩) ⟨true, b, v⟩ = cq at *
      obtain ⟨mb, hmb⟩ : ∃ mb, decide (n < 2 * cq) = mb := ⟨_, rfl⟩
      simp only [hmb] at MJ
      have HMB := Lib.hid hmb
      clear r7 M7 N7 k7 n0 n1 n2 n3 CR o0 o1 o2 o3 HN HBW hmb
      go_upto_region 8 with (fail)
      refine wp_region_quiet_below (by kernel_rfl) (by kernel_rfl) ?_
      repeat (go_big_quiet_step (exact MJ.out _ _))
      refine wpQuiet_nil ?_
      intro _ hw'
      obtain ⟨⟨dq, osq⟩, hw''⟩ := hw'
      subst hw''
      have lk := below_regrown w7 dq osq
      have R8 := Lib.hid (RowL.below R7.out lk); have M8 := Lib.hid (MM7.out.keep (Keep.of_below lk []) (by simp)); have N8 := Lib.hid (RowA.below NN7.out lk); have K8 := Lib.hid (K7.out.trans (Keep.of_below lk _))
      clear y0 y1 y2 y3 z0 z1 hlk MJ lk R7 MM7 NN7 K7
      generalize grow (redrawn w7 dq) osq = w8 at *
      have p := HP.out
      have hcz := HCZ.out
      have hcb : mb = true ∨ mb = false := by cases mb <;> simp
      rcases hcb with hmb | hmb
      · subst hmb
        obtain ⟨n0, n1, n2, n3, _⟩ := RowA.all N8.out
        obtain ⟨_, q1, q2, q3, q4⟩ := RowL.end R8.out
        have f1 := RowL.fr R8.out 38
        have f2 := RowL.fr R8.out 39
        have f3 := RowL.fr R8.out 40
        have f4 := RowL.fr R8.out 41
        go_upto_region 11 with (fail)
        have R9 := layC_row (a := ⟨true, b, v⟩) R8.out
        have kk := layC_keep w8 ln ⟨true, b, v⟩
        have M9 := Lib.hid (M8.out.keep kk (by simpa using Ne.symm hne))
        have N9 : RowA _ bn ⟨true, b, v⟩ := row_keep N8.out kk (by have := HBN.out; simp; omega)
        have K9 := Lib.hid (K8.out.trans (kk.mono (T := [ln, gm]) (by simp)))
        simp only [layC] at R9 M9 N9 K9
        have RR9 := Lib.hid R9; have NN9 := Lib.hid N9
        clear kk R8 M8 N8 K8 n0 n1 n2 n3 q1 q2 q3 q4 f1 f2 f3 f4 R9 N9
        generalize (((w8.setCell ⟨ln, 38, none⟩ (.bool true)).setCell ⟨ln, 39, none⟩ (.int .u32 b.round)).setCell ⟨ln, 40, none⟩ (.int .u8 b.node)).setCell ⟨ln, 41, none⟩ (.string v) = w9 at *
        have HCL := Lib.hid (fun ty => clear_nine w9 ln 1 9 (RowL.some_ RR9.out) (fun j _ => RowL.fr RR9.out (1 + j)) ty)
        go_upto_region 12 with (refine wpList_clr rfl (.tmp 76) _ rfl rfl (HCL.out _) ?_)
        try simp only [Act.put]
        have RA := Lib.hid (RowL.clear RR9.out)
        have kk := keep_puts (fl cA none9) w9 ln 1
        have MA := Lib.hid (M9.out.keep kk (by simpa using Ne.symm hne))
        have NA := Lib.hid (show RowA _ bn ⟨true, b, v⟩ from row_keep NN9.out kk (by have := HBN.out; simp; omega))
        have KA := Lib.hid (K9.out.trans (kk.mono (T := [ln, gm]) (by simp)))
        clear HCL RR9 M9 NN9 K9 kk
        generalize w9.setCells ln 1 (fl cA none9) = wa at *
        obtain ⟨wb, hrb, mb, kb⟩ := MA.out.clear kAc 0
        have RB := Lib.hid (RowL.keep RA.out kb (by simpa using hne))
        have NB : RowA wb bn ⟨true, b, v⟩ := row_keep NA.out kb (by have := HBN.out; simp; omega)
        have KB := Lib.hid (KA.out.trans (kb.mono (T := [ln, gm]) (by simp)))
        have HRB := Lib.hid hrb
        obtain ⟨q0, _⟩ := RowL.end RA.out
        clear hrb kb RA MA NA KA
        go_upto_region 13 with (refine wpList_clr rfl (.tmp 80) _ rfl rfl HRB.out ?_)
        try simp only [Act.put]
        clear q0 HRB
        obtain ⟨n0, n1, n2, n3, _⟩ := RowA.all NB
        clear NB
        go_wp2_with fail
        go_ret2
        refine ⟨KB.out, ?_⟩
        rw [hcq, if_pos (of_decide_eq_true HMB.out)]
        refine ⟨rfl, ⟨0, Nat.zero_le _, mb.ext fun i _ => cf_none9 i⟩, RB.out, p.base, p.gbase, p.ne, p.n1, p.n9, fun x hx => ?_, hv⟩
        rw [List.mem_replicate] at hx
        rw [hx.2]; exact a0ok
      · subst hmb
        go_wp2_with fail
        go_ret2
        refine ⟨K8.out, ?_⟩
        rw [hcq, if_neg (of_decide_eq_false HMB.out)]
        refine ⟨rfl, ⟨m7, by omega, M8.out⟩, hcz ▸ R8.out, p.base, p.gbase, p.ne, p.n1, p.n9, HOK9.out, by decide⟩
  · rw [his] at o0
    go_upto_region 4 with (fail)
    go_wp2_with fail
    refine (HL2.out his _).mono ?_; rintro e w4 ⟨rfl, b4⟩
    have HS6 := Lib.hid (show ∀ W', Below w4.heap.size w4 W' → LnW W' B ln gm n last ch c ∧ RowA W' (bi + 1) old ∧ Row2 W' bi b ∧ Below bi w W' from fun W' hb => by
      have hb2 := below_next b4 hb
      exact ⟨T0.out.below hb2, RowA.below KO.out hb2, Row2.below KB.out hb2, by have := BW.out; exact this.trans (hb2.mono (by have := HZ.out; omega))⟩)
    clear b4 o0 o1 o2 o3 d0 d1
    go_upto_region 6 with (fail)
    clear his
    clear T0 KO KB BW HL2
    obtain ⟨d0, d1, _, _⟩ := Row2.all (HS6.out w4 (Below.refl _ _)).2.2.1
    have hbl : bi < w4.heap.size := Row2.lt (HS6.out w4 (Below.refl _ _)).2.2.1
    have HSW := Lib.hid (show w4.cell? ⟨bi, 0, none⟩ = some (.int .u32 b.round) ∧ w4.cell? ⟨bi, 1, none⟩ = some (.int .u8 b.node) ∧ bi < w4.heap.size from ⟨d0, d1, hbl⟩)
    have HNB := Lib.hid (show bi ∉ [w4.heap.size] by simp; omega)
    go_cut [11] from 48 to 51 (fun s11 wx => ∃ bn, s11 = .pointer (some ⟨bn, 0, none⟩) ∧ RowA wx bn ⟨true, b, v⟩ ∧ Below w4.heap.size w4 wx ∧ w4.heap.size ≤ bn)
    case first =>
      go_region_held3 (fun w' => w'.cell? ⟨bi, 0, none⟩ = some (.int .u32 b.round) ∧ w'.cell? ⟨bi, 1, none⟩ = some (.int .u8 b.node) ∧ bi < w'.heap.size)
        (first | with_reducible assumption | with_reducible exact HS3.out | with_reducible exact cpKeep HS3.out (layA_keep w3 w4.heap.size ⟨true, b, v⟩) HNB.out | with_reducible exact cpKeep HS3.out (Keep.of_below (below_alloc (Below.refl w3.heap.size w3) _) []) (by simp) | with_reducible exact cpKeep HSW.out (Keep.of_below (below_alloc (Below.refl _ w4) _).drew []) (by simp) | with_reducible exact cpKeep HSW.out (Keep.of_below (Below.refl _ w4).drew []) (by simp))
        (first
          | (go_at_call 25; with_reducible refine (CL.out w4.drew).mono ?_; rintro e w3 ⟨rfl, b3⟩; have HB3 := Lib.hid (below_next (Below.refl w4.heap.size w4).drew b3); have HS3 := Lib.hid (cpKeep HSW.out (Keep.of_below HB3.out []) (by simp)); clear b3)
          | (go_at_call 25; with_reducible refine (CL.out (w4.alloc (.cells #[.bool false, .int .u32 0, .int .u8 0, .string ⟨#[]⟩] 42)).drew).mono ?_; rintro e w3 ⟨rfl, b3⟩; have HR3 := Lib.hid (RowA.below (RowA.below (RowA.new w4 a0) (Below.refl _ _).drew) b3); obtain ⟨n0, n1, n2, n3, g0, g1, g2, g3⟩ := RowA.all HR3.out; have HB3 := Lib.hid (below_next (below_alloc (Below.refl w4.heap.size w4) (Ac.obj a0)).drew b3); have HS3 := Lib.hid (cpKeep HSW.out (Keep.of_below HB3.out []) (by simp)); clear b3))
      all_goals go_wp2_with fail
      all_goals go_meet
      all_goals refine ⟨_, rfl, ?_, ?_, ?_⟩
      all_goals first
        | with_reducible exact HB3.out.size
        | with_reducible exact Nat.le_refl _
        | with_reducible exact below_alloc HB3.out _
        | (have q := HB3.out.trans ((layA_keep w3 w4.heap.size ⟨true, b, v⟩).below HB3.out.size (by simp)); simp only [layA] at q; (with_reducible exact q))
        | (have q := layA_row (x := ⟨true, b, v⟩) HR3.out; simp only [layA] at q; (with_reducible exact q))
        | (have q := RowA.new w3 ⟨true, b, v⟩; simp only [Ac.obj] at q; (with_reducible exact q))
    case rest =>
      obtain ⟨bn, rfl, hN, hB4, hbn⟩ := hcut
      obtain ⟨hT, hO, _, hBW⟩ := HS6.out wc hB4
      obtain ⟨m, hmc, hM⟩ := hT.map
      have hne := hT.ne
      have hn9 := hT.n9
      have hl9 : last.length = 9 := hT.row.2
      have hoc : ∀ (l : List Ac) x, l.length = 9 → occ l x ≤ 9 := fun l x h => by rw [← h]; exact List.countP_le_length
      have hk9 : k < 9 := by omega
      have ho1 : old.Ok := hT.ok old (List.mem_of_getElem? HOLD.out)
      have ho2 : (⟨true, b, v⟩ : Ac).Ok := ⟨hbo, by show v.size ≤ _; unfold maxLen; omega⟩
      have CR := Lib.hid (replace_any (now := ⟨true, b, v⟩) k m hk9 HOLD.out rfl ho1 ho2 (by omega) hne (fun x => hoc last x hl9) wc hT.row hM)
      have HBN := Lib.hid (show bn < wc.heap.size ∧ bn ≠ ln ∧ bn ≠ gm from ⟨RowA.lt hN, by have := HL.out; have := RowA.lt hO; have := Row2.lt (HS6.out w4 (Below.refl _ _)).2.2.1; omega, by have := HL.out; have := Row2.lt (HS6.out w4 (Below.refl _ _)).2.2.1; omega⟩)
      have HN := Lib.hid hN; have HBW := Lib.hid hBW; have HOC := Lib.hid (hoc (last.set k ⟨true, b, v⟩) ⟨true, b, v⟩ (by rw [List.length_set]; exact hl9))
      have HOK9 := Lib.hid (show ∀ x ∈ last.set k ⟨true, b, v⟩, x.Ok from fun x hx => by
        rcases List.mem_or_eq_of_mem_set hx with h1 | h1
        · exact hT.ok x h1
        · rw [h1]; exact ho2)
      have HO2 := Lib.hid ho2
      obtain ⟨o0, o1, o2, o3, _⟩ := RowA.all hO
      obtain ⟨n0, n1, n2, n3, _⟩ := RowA.all hN
      simp only [Ac.ag] at CR
      clear hT hO hBW hM hN hoc ho1 ho2 hB4 hbn HS6 HSW HNB d0 d1 hbl hl9 HOLD
      go_upto_region 7 with (fail)
      go_wp2_with fail
      refine CR.out.mono ?_; rintro e w7 ⟨rfl, r7, ⟨m7, hm7, M7⟩, k7⟩
      have hnb : bn ∉ [ln, gm] := by have := HBN.out; simp; omega
      have N7 : RowA w7 bn ⟨true, b, v⟩ := row_keep HN.out k7 hnb
      have K7 := Lib.hid ((show Keep [ln, gm] w wc from Keep.of_below (by rw [hbi]; exact HBW.out) _).trans k7)
      have R7 := Lib.hid r7; have MM7 := Lib.hid M7; have NN7 := Lib.hid N7
      obtain ⟨n0, n1, n2, n3, _⟩ := RowA.all N7
      have y0 := cell_regrown n0; have y1 := cell_regrown n1; have y2 := cell_regrown n2; have y3 := cell_regrown n3
      have z0 := cell_regrown (RowL.at0 r7); have z1 := cell_regrown (RowL.end r7).1
      have hlk := fun d os => (M7.keep (Keep.of_below (below_regrown w7 d os) []) (by simp)).look1 kAc ⟨true, b, v⟩ HO2.out
      simp only [cf_get (last.set k ⟨true, b, v⟩) ⟨true, b, v⟩ rfl, Ac.ag] at hlk
      have hoc := HOC.out
      have MJ := Lib.hid (fun d os => Calls.regrown_of (same_below (majority_any (occ (last.set k ⟨true, b, v⟩) ⟨true, b, v⟩) n hoc (by omega) (grow (redrawn w7 d) os))))
      generalize hcq : occ (last.set k ⟨true, b, v⟩) ⟨true, b, v⟩ = cq at *
      obtain ⟨mb, hmb⟩ : ∃ mb, decide (n < 2 * cq) = mb := ⟨_, rfl⟩
      simp only [hmb] at MJ
      have HMB := Lib.hid hmb
      clear r7 M7 N7 k7 n0 n1 n2 n3 CR o0 o1 o2 o3 HN HBW hmb
      go_upto_region 8 with (fail)
      refine wp_region_quiet_below (by kernel_rfl) (by kernel_rfl) ?_
      repeat (go_big_quiet_step (exact MJ.out _ _))
      refine wpQuiet_nil ?_
      intro _ hw'
      obtain ⟨⟨dq, osq⟩, hw''⟩ := hw'
      subst hw''
      have lk := below_regrown w7 dq osq
      have R8 := Lib.hid (RowL.below R7.out lk); have M8 := Lib.hid (MM7.out.keep (Keep.of_below lk []) (by simp)); have N8 := Lib.hid (RowA.below NN7.out lk); have K8 := Lib.hid (K7.out.trans (Keep.of_below lk _))
      clear y0 y1 y2 y3 z0 z1 hlk MJ lk R7 MM7 NN7 K7
      generalize grow (redrawn w7 dq) osq = w8 at *
      have p := HP.out
      have hcz := HCZ.out
      have hcb : mb = true ∨ mb = false := by cases mb <;> simp
      rcases hcb with hmb | hmb
      · subst hmb
        obtain ⟨n0, n1, n2, n3, _⟩ := RowA.all N8.out
        obtain ⟨_, q1, q2, q3, q4⟩ := RowL.end R8.out
        have f1 := RowL.fr R8.out 38
        have f2 := RowL.fr R8.out 39
        have f3 := RowL.fr R8.out 40
        have f4 := RowL.fr R8.out 41
        go_upto_region 11 with (fail)
        have R9 := layC_row (a := ⟨true, b, v⟩) R8.out
        have kk := layC_keep w8 ln ⟨true, b, v⟩
        have M9 := Lib.hid (M8.out.keep kk (by simpa using Ne.symm hne))
        have N9 : RowA _ bn ⟨true, b, v⟩ := row_keep N8.out kk (by have := HBN.out; simp; omega)
        have K9 := Lib.hid (K8.out.trans (kk.mono (T := [ln, gm]) (by simp)))
        simp only [layC] at R9 M9 N9 K9
        have RR9 := Lib.hid R9; have NN9 := Lib.hid N9
        clear kk R8 M8 N8 K8 n0 n1 n2 n3 q1 q2 q3 q4 f1 f2 f3 f4 R9 N9
        generalize (((w8.setCell ⟨ln, 38, none⟩ (.bool true)).setCell ⟨ln, 39, none⟩ (.int .u32 b.round)).setCell ⟨ln, 40, none⟩ (.int .u8 b.node)).setCell ⟨ln, 41, none⟩ (.string v) = w9 at *
        have HCL := Lib.hid (fun ty => clear_nine w9 ln 1 9 (RowL.some_ RR9.out) (fun j _ => RowL.fr RR9.out (1 + j)) ty)
        go_upto_region 12 with (refine wpList_clr rfl (.tmp 76) _ rfl rfl (HCL.out _) ?_)
        try simp only [Act.put]
        have RA := Lib.hid (RowL.clear RR9.out)
        have kk := keep_puts (fl cA none9) w9 ln 1
        have MA := Lib.hid (M9.out.keep kk (by simpa using Ne.symm hne))
        have NA := Lib.hid (show RowA _ bn ⟨true, b, v⟩ from row_keep NN9.out kk (by have := HBN.out; simp; omega))
        have KA := Lib.hid (K9.out.trans (kk.mono (T := [ln, gm]) (by simp)))
        clear HCL RR9 M9 NN9 K9 kk
        generalize w9.setCells ln 1 (fl cA none9) = wa at *
        obtain ⟨wb, hrb, mb, kb⟩ := MA.out.clear kAc 0
        have RB := Lib.hid (RowL.keep RA.out kb (by simpa using hne))
        have NB : RowA wb bn ⟨true, b, v⟩ := row_keep NA.out kb (by have := HBN.out; simp; omega)
        have KB := Lib.hid (KA.out.trans (kb.mono (T := [ln, gm]) (by simp)))
        have HRB := Lib.hid hrb
        obtain ⟨q0, _⟩ := RowL.end RA.out
        clear hrb kb RA MA NA KA
        go_upto_region 13 with (refine wpList_clr rfl (.tmp 80) _ rfl rfl HRB.out ?_)
        try simp only [Act.put]
        clear q0 HRB
        obtain ⟨n0, n1, n2, n3, _⟩ := RowA.all NB
        clear NB
        go_wp2_with fail
        go_ret2
        refine ⟨KB.out, ?_⟩
        rw [hcq, if_pos (of_decide_eq_true HMB.out)]
        refine ⟨rfl, ⟨0, Nat.zero_le _, mb.ext fun i _ => cf_none9 i⟩, RB.out, p.base, p.gbase, p.ne, p.n1, p.n9, fun x hx => ?_, hv⟩
        rw [List.mem_replicate] at hx
        rw [hx.2]; exact a0ok
      · subst hmb
        go_wp2_with fail
        go_ret2
        refine ⟨K8.out, ?_⟩
        rw [hcq, if_neg (of_decide_eq_false HMB.out)]
        refine ⟨rfl, ⟨m7, by omega, M8.out⟩, hcz ▸ R8.out, p.base, p.gbase, p.ne, p.n1, p.n9, HOK9.out, by decide⟩
end
end Go.Proofs.Ytgfalpiifgoonaa
