/- The heap's state; before, below. -/
import Derived.Test.YtkhfbnlmjnbhmaaHeap
namespace Go.Proofs.Ytkhfbnlmjnbhmaa
open Go.RowKit Go.Sort
set_option linter.unusedVariables false

abbrev agT (t : Tm) : Value := .agg #[.int .u64 (t.1 : Int), .int .i64 (t.2.1 : Int), .int .u64 (t.2.2 : Int)]
abbrev Ret (n : Nat) (xs : Array Value) (r : Ending) : Prop := ∀ w, Calls Try.prog n xs w fun e w' => e = r ∧ Below w.heap.size w w'
theorem Ret.re {n : Nat} {xs : Array Value} {v : Value} (h : Ret n xs (.returned v)) (w : World) (d : Nat) (os : Array Obj) :
    Calls Try.prog n xs (grow (redrawn w d) os) fun e w'' => e = .returned v ∧ ∃ p : Regrown, w'' = grow (redrawn w p.d) p.os := Calls.regrown_of (h _)

/-- the heap in block hb at 2: its list in row ao, its map gm -/
structure HpW (w : World) (B hb gm n : Nat) (ao : Option Addr) (cap : Nat) (l : List Tm) (f : Nat → Option Nat) : Prop where
  cl : w.cell? ⟨hb, 2, none⟩ = some (.slice ao l.length cap)
  cm : w.cell? ⟨hb, 3, none⟩ = some (.map (some gm))
  fr : w.frozen? ⟨hb, 2, none⟩ = false
  hlt : hb < w.heap.size
  base : B ≤ hb
  gbase : B ≤ gm
  own : w.ownsRow B 66 3 (.slice ao l.length cap) l.length (fl c3 l)
  map : MapF w gm n f
  nhg : hb ≠ gm
  nhr : hb ∉ blk ao
  ngr : gm ∉ blk ao
  ok : ∀ t ∈ l, okT t
  few : l.length ≤ 256
section
variable {w w' : World} {B hb gm n : Nat} {ao : Option Addr} {cap : Nat} {l : List Tm} {f : Nat → Option Nat}
theorem HpW.keep {S : List Nat} (h : HpW w B hb gm n ao cap l f) (k : Keep S w w') (h1 : hb ∉ S) (h2 : gm ∉ S) (h3 : ∀ g ∈ blk ao, g ∉ S) : HpW w' B hb gm n ao cap l f :=
  ⟨(k.cell h.hlt h1).trans h.cl, (k.cell h.hlt h1).trans h.cm, (k.frozen h.hlt h1).trans h.fr, Nat.lt_of_lt_of_le h.hlt k.size, h.base, h.gbase, owns_keep h.own k (blk_own _ _ _ h3), h.map.keep k h2, h.nhg, h.nhr, h.ngr, h.ok, h.few⟩
theorem HpW.below (h : HpW w B hb gm n ao cap l f) (b : Below w.heap.size w w') : HpW w' B hb gm n ao cap l f := h.keep (Keep.of_below b []) (by simp) (by simp) (by simp)
theorem HpW.at_ (h : HpW w B hb gm n ao cap l f) (j : Nat) (hj : j < l.length) : ∃ g, ao = some ⟨g, 0, none⟩ ∧ g < w.heap.size ∧ B ≤ g ∧ g ≠ hb ∧ g ≠ gm ∧
    w.cell? ⟨g, j * 3, none⟩ = some (.int .u64 ((tm l j).1 : Int)) ∧ w.cell? ⟨g, j * 3 + 1, none⟩ = some (.int .i64 ((tm l j).2.1 : Int)) ∧ w.cell? ⟨g, j * 3 + 2, none⟩ = some (.int .u64 ((tm l j).2.2 : Int)) := by
  have ho := h.own
  rcases ho.2 with ⟨h2, h3⟩ | ⟨g, cap', cur, h2, hb, hg, h3, h4, h5, h6⟩
  · omega
  · have hn1 := h.nhr; have hn2 := h.ngr
    cases h2
    refine ⟨g, rfl, (Array.getElem?_eq_some_iff.1 hg).1, hb, fun e => hn1 (by simp [blk, e]), fun e => hn2 (by simp [blk, e]), ?_⟩
    have key : ∀ q, q < 3 → w.cell? ⟨g, j * 3 + q, none⟩ = (c3 (tm l j))[q]? := by
      intro q hq
      rw [cell_of_row w g (j * 3 + q) cur _ (0, 0) hg]
      have := congrArg (·[j * 3 + q]?) h6
      simp only [List.getElem?_take] at this
      rw [if_pos (by omega), Array.getElem?_toList] at this
      rw [this, fl_at c3_len l j q hq, tm_get hj]
      rfl
    exact ⟨key 0 (by omega), key 1 (by omega), key 2 (by omega)⟩
theorem HpW.fits (h : HpW w B hb gm n ao cap l f) (j : Nat) (hj : j < l.length) : okT (tm l j) := h.ok _ (tm_mem hj)
end

set_option maxHeartbeats 1000000 in
theorem before_any (a b : Tm) (ha : okT a) (hb : okT b) : Ret 35 #[agT a, agT b] (.returned (.bool (bef a b))) := by
  intro w
  obtain ⟨a1, a2, a3⟩ := a
  obtain ⟨b1, b2, b3⟩ := b
  obtain ⟨p1, p2, p3⟩ := ha
  obtain ⟨q1, q2, q3⟩ := hb
  simp only at p1 p2 p3 q1 q2 q3
  have HB := Lib.hid (show bef (a1, a2, a3) (b1, b2, b3) = (decide (a2 < b2) || (decide (a2 = b2) && decide (a3 < b3))) from rfl)
  go_enter Try.func35, Try.ntmps35
  by_cases e : a2 = b2
  · subst e
    go_wp2_with fail
    go_ret
    refine ⟨ret_bool ?_, below_alloc (below_alloc (Below.refl _ _) _) _⟩
    rw [HB.out]; simp
  · have he : ((a2 : Int) != (b2 : Int)) = true := by simp; omega
    go_wp2_with fail
    all_goals
      go_ret
      refine ⟨ret_bool ?_, below_alloc (below_alloc (Below.refl _ _) _) _⟩
      rw [HB.out]; simp [e]

/-- that index below i whose timer is before the other's -/
def blw (l : List Tm) (i : Nat) : Nat := if 2 * i + 2 < l.length ∧ bef (tm l (2 * i + 2)) (tm l (2 * i + 1)) = true then 2 * i + 2 else 2 * i + 1
theorem blw_le (l : List Tm) (i : Nat) : 2 * i + 1 ≤ blw l i ∧ blw l i ≤ 2 * i + 2 ∧ (blw l i - 1) / 2 = i := by unfold blw; split <;> omega
theorem blw_none {l : List Tm} {i : Nat} (h : l.length ≤ blw l i) : l.length ≤ 2 * i + 1 := by unfold blw at h; split at h <;> omega
theorem blw_min {l : List Tm} {i : Nat} (k : Nat) (h0 : 0 < k) (h1 : k < l.length) (h2 : (k - 1) / 2 = i) : bef (tm l k) (tm l (blw l i)) = false := by
  have : k = 2 * i + 1 ∨ k = 2 * i + 2 := by omega
  unfold blw
  split
  · rename_i h
    rcases this with rfl | rfl
    · exact nb_asym h.2
    · exact nb_refl _
  · rename_i h
    rcases this with rfl | rfl
    · exact nb_refl _
    · simpa [h1] using h

set_option maxHeartbeats 2000000 in
theorem below_any {B hb gm n : Nat} {ao : Option Addr} {cap : Nat} {l : List Tm} {f : Nat → Option Nat} (w : World) (i : Nat) (hw : HpW w B hb gm n ao cap l f) (hi : i < l.length) :
    Calls Try.prog 39 #[.pointer (some ⟨hb, 2, none⟩), .int .i64 (i : Int)] w fun e w' => e = .returned (.int .i64 (blw l i : Int)) ∧ Below w.heap.size w w' := by
  have hf := hw.few
  have c2 := hw.cl
  have HB := Lib.hid (show blw l i = if 2 * i + 2 < l.length ∧ bef (tm l (2 * i + 2)) (tm l (2 * i + 1)) = true then 2 * i + 2 else 2 * i + 1 from rfl)
  by_cases h1 : 2 * i + 2 < l.length
  · obtain ⟨g, rfl, hg, hgb, hn1, hn2, x0, x1, x2⟩ := hw.at_ (2 * i + 1) (by omega)
    obtain ⟨g', e, _, _, _, _, y0, y1, y2⟩ := hw.at_ (2 * i + 2) h1
    cases e
    have C := Lib.hid (before_any (tm l (2 * i + 2)) (tm l (2 * i + 1)) (hw.fits _ h1) (hw.fits _ (by omega)))
    clear hw
    generalize tm l (2 * i + 1) = s at *
    generalize tm l (2 * i + 2) = t at *
    generalize hL : l.length = L at *
    have HL := Lib.hid hL; clear hL
    have r2 := cell_regrown c2
    have rx0 := cell_regrown x0; have rx1 := cell_regrown x1; have rx2 := cell_regrown x2
    have ry0 := cell_regrown y0; have ry1 := cell_regrown y1; have ry2 := cell_regrown y2
    generalize bef t s = bb at *
    have hd : decide (2 * (i : Int) + 1 + 1 < (L : Int)) = true := by simp; omega
    have t1 : (2 * (i : Int) + 1).toNat = 2 * i + 1 := by omega
    have t2 : (2 * (i : Int) + 1 + 1).toNat = 2 * i + 2 := by omega
    have H1 := Lib.hid h1
    go_enter Try.func39, Try.ntmps39
    go_wp2_with fail
    refine wp_region_quiet_below (by kernel_rfl) (by kernel_rfl) ?_
    repeat (go_big_quiet_step (exact C.out.re _ _ _))
    refine wpQuiet_nil ?_
    intro _ hw'
    obtain ⟨⟨dq, osq⟩, hw''⟩ := hw'
    subst hw''
    have lk := below_regrown w dq osq
    cases bb
    · go_wp2_with fail
      go_ret
      exact ⟨ret_int (by rw [HB.out]; simp), lk⟩
    · go_wp2_with fail
      go_ret
      exact ⟨ret_int (by rw [HB.out, if_pos ⟨H1.out, by simp⟩]; omega), lk⟩
  · clear hw
    generalize l.length = L at *
    have hd : decide (2 * (i : Int) + 1 + 1 < (L : Int)) = false := by simp; omega
    have r2 := cell_regrown c2
    have H1 := Lib.hid h1
    clear h1
    go_enter Try.func39, Try.ntmps39
    go_wp2_with fail
    refine wp_region_quiet_below (by kernel_rfl) (by kernel_rfl) ?_
    repeat (go_big_quiet_step (fail))
    refine wpQuiet_nil ?_
    intro _ hw'
    obtain ⟨⟨dq, osq⟩, hw''⟩ := hw'
    subst hw''
    have lk := below_regrown w dq osq
    go_wp2_with fail
    go_ret
    exact ⟨ret_int (by rw [HB.out, if_neg (fun h => H1.out h.1)]; omega), lk⟩
end Go.Proofs.Ytkhfbnlmjnbhmaa
