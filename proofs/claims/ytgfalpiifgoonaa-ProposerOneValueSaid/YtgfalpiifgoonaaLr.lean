/- The learner: its state; NewLearner, Chosen. -/
import Derived.Test.YtgfalpiifgoonaaPq
namespace Go.Proofs.Ytgfalpiifgoonaa
open Go.RowKit Go.Sort
set_option linter.unusedVariables false
set_option linter.unusedSectionVars false
set_option linter.unusedSimpArgs false
set_option maxRecDepth 100000

abbrev cA (a : Ac) : List Value := [.bool a.is, .int .u32 a.b.round, .int .u8 a.b.node, .string a.v]
theorem cA_len (a : Ac) : (cA a).length = 4 := rfl
def lrow (n : Nat) (last : List Ac) (gm : Nat) (ch : Ac) : List Value := .int .i64 (n : Int) :: (fl cA last ++ (.map (some gm) :: cA ch))
/-- a learner's block -/
def RowL (w : World) (ln n : Nat) (last : List Ac) (gm : Nat) (ch : Ac) : Prop := w.heap[ln]? = some (.cells ⟨lrow n last gm ch⟩ 90 (0, 0)) ∧ last.length = 9
/-- how often -/
def occ (l : List Ac) (x : Ac) : Nat := l.countP fun y => decide (y = x)
def cf (l : List Ac) : Ac → Option Int := fun x => if x.is = true ∧ 0 < occ l x then some (occ l x : Int) else none
abbrev none9 : List Ac := List.replicate 9 a0
theorem occ_set (l : List Ac) (k : Nat) (old now x : Ac) (h : l[k]? = some old) : occ (l.set k now) x + (if old = x then 1 else 0) = occ l x + (if now = x then 1 else 0) := by
  induction l generalizing k with
  | nil => simp at h
  | cons y r ih =>
    cases k with
    | zero =>
      simp only [List.getElem?_cons_zero, Option.some.injEq] at h
      subst h
      simp only [occ, List.set_cons_zero, List.countP_cons, decide_eq_true_eq]
      omega
    | succ k =>
      simp only [List.getElem?_cons_succ] at h
      have := ih k h
      simp only [occ, List.set_cons_succ, List.countP_cons, decide_eq_true_eq] at this ⊢
      omega
theorem occ_none9 (x : Ac) (h : x.is = true) : occ none9 x = 0 := by
  have : ¬ a0 = x := by intro e; subst e; cases h
  simp [occ, List.countP_replicate, this]
theorem cf_none9 (x : Ac) : cf none9 x = none := by
  unfold cf
  by_cases h : x.is = true
  · rw [occ_none9 x h]; simp
  · simp [h]
/-- how often, as the map tells it -/
theorem cf_get (l : List Ac) (x : Ac) (h : x.is = true) : (cf l x).getD 0 = (occ l x : Int) := by
  unfold cf
  by_cases h0 : 0 < occ l x
  · simp [h, h0]
  · simp [h0]; omega
theorem cf_is (l : List Ac) (x : Ac) (h : x.is = false) : cf l x = none := by simp [cf, h]
theorem occ_mem (l : List Ac) (k : Nat) (x : Ac) (h : l[k]? = some x) : 0 < occ l x := by
  unfold occ
  rw [List.countP_pos_iff]
  exact ⟨x, List.mem_of_getElem? h, by simp⟩
/-- what the map becomes -/
theorem cf_turn (l : List Ac) (k : Nat) (old now x : Ac) (h : l[k]? = some old) (hn : now.is = true) (g1 : Ac → Option Int)
    (h1 : g1 = if 1 < (cf l old).getD 0 then up (cf l) old (some ((cf l old).getD 0 - 1)) else up (cf l) old none) : cf (l.set k now) x = up g1 now (some ((g1 now).getD 0 + 1)) x := by
  have ho := occ_set l k old now
  have hx := ho x h
  have hno := ho now h
  have hg : ∀ y, y.is = true → (g1 y).getD 0 = (occ l y : Int) - (if old = y then 1 else 0) ∧ ((g1 y).isSome = true ↔ 0 < occ l y - (if old = y then 1 else 0)) := by
    intro y hy
    by_cases e : old = y
    · subst e
      have hm := occ_mem l k old h
      rw [cf_get l old hy] at h1
      split at h1
      · rename_i h2
        rw [h1, up_same]
        simp; omega
      · rename_i h2
        rw [h1, up_same]
        simp; omega
    · have : g1 y = cf l y := by
        rw [h1]
        split
        · exact up_other _ _ (Ne.symm e)
        · exact up_other _ _ (Ne.symm e)
      rw [this, cf_get l y hy]
      simp only [e, if_false]
      refine ⟨by omega, ?_⟩
      unfold cf
      by_cases h0 : 0 < occ l y <;> simp [hy, h0]
  by_cases hxi : x.is = true
  · by_cases e : x = now
    · subst e
      rw [up_same, (hg x hn).1]
      simp only [if_true] at hx
      unfold cf
      have : 0 < occ (l.set k x) x := by
        have := occ_mem (l.set k x) k x (by rw [List.getElem?_set_self (List.getElem?_eq_some_iff.1 h).1])
        exact this
      simp only [hxi, this, and_self, if_true, Option.some.injEq]
      split at hx <;> rename_i h3 <;> simp [h3] <;> omega
    · rw [up_other _ _ e]
      have e2 : ¬ now = x := fun h => e h.symm
      simp only [e2, if_false, Nat.add_zero] at hx
      obtain ⟨h4, h5⟩ := hg x hxi
      unfold cf
      by_cases h6 : 0 < occ (l.set k now) x
      · simp only [hxi, h6, and_self, if_true]
        have h7 : (g1 x).isSome = true := h5.2 (by omega)
        cases hq : g1 x with
        | none => rw [hq] at h7; cases h7
        | some c =>
          rw [hq] at h4
          simp only [Option.getD_some] at h4
          congr 1
          split at hx <;> rename_i h3 <;> simp [h3] at h4 <;> omega
      · simp only [h6, and_false, if_false]
        cases hq : g1 x with
        | none => rfl
        | some c =>
          have : 0 < occ l x - (if old = x then 1 else 0) := h5.1 (by rw [hq]; rfl)
          omega
  · simp only [Bool.not_eq_true] at hxi
    have e : ¬ x = now := by intro e; subst e; rw [hn] at hxi; cases hxi
    rw [cf_is _ x hxi, up_other _ _ e, h1]
    by_cases e2 : x = old
    · subst e2
      rw [cf_is l x hxi]
      simp [up_same]
    · split
      · rw [up_other _ _ e2, cf_is l x hxi]
      · rw [up_other _ _ e2, cf_is l x hxi]
section
variable {w w' : World} {B ln gm n c : Nat} {last : List Ac} {ch : Ac}
theorem RowL.lt (h : RowL w ln n last gm ch) : ln < w.heap.size := (Array.getElem?_eq_some_iff.1 h.1).1
theorem RowL.keep {U : List Nat} (h : RowL w ln n last gm ch) (k : Keep U w w') (hn : ln ∉ U) : RowL w' ln n last gm ch := ⟨(k.block ln (RowL.lt h) hn).trans h.1, h.2⟩
theorem RowL.below (h : RowL w ln n last gm ch) (b : Below w.heap.size w w') : RowL w' ln n last gm ch := RowL.keep h (Keep.of_below b []) (by simp)
theorem RowL.fr (h : RowL w ln n last gm ch) (i : Nat) : w.frozen? ⟨ln, i, none⟩ = false := frozen_of_row w ln i _ _ h.1
theorem RowL.cell (h : RowL w ln n last gm ch) (i : Nat) : w.cell? ⟨ln, i, none⟩ = (lrow n last gm ch)[i]? := by
  rw [cell_of_row w ln i _ _ (0, 0) h.1]
  simp
theorem lrow_last (hl : last.length = 9) (k i : Nat) (hk : k < 9) (hi : i < 4) (x : Ac) (hx : last[k]? = some x) : (lrow n last gm ch)[1 + k * 4 + i]? = (cA x)[i]? := by
  unfold lrow
  rw [show 1 + k * 4 + i = (k * 4 + i) + 1 by omega, List.getElem?_cons_succ, List.getElem?_append_left (by rw [fl_len cA_len]; omega), fl_at cA_len last k i hi, hx]
  rfl
theorem lrow_tail (hl : last.length = 9) (i : Nat) : (lrow n last gm ch)[37 + i]? = (.map (some gm) :: cA ch)[i]? := by
  unfold lrow
  rw [show 37 + i = (36 + i) + 1 by omega, List.getElem?_cons_succ, List.getElem?_append_right (by rw [fl_len cA_len]; omega), fl_len cA_len, hl]
  congr 1
  omega
theorem RowL.at0 (h : RowL w ln n last gm ch) : w.cell? ⟨ln, 0, none⟩ = some (.int .i64 (n : Int)) := by rw [RowL.cell h]; rfl
theorem RowL.end (h : RowL w ln n last gm ch) : w.cell? ⟨ln, 37, none⟩ = some (.map (some gm)) ∧ w.cell? ⟨ln, 38, none⟩ = some (.bool ch.is) ∧ w.cell? ⟨ln, 39, none⟩ = some (.int .u32 ch.b.round) ∧ w.cell? ⟨ln, 40, none⟩ = some (.int .u8 ch.b.node) ∧ w.cell? ⟨ln, 41, none⟩ = some (.string ch.v) := by
  have := lrow_tail (n := n) (gm := gm) (ch := ch) h.2
  simp only [RowL.cell h]
  exact ⟨this 0, this 1, this 2, this 3, this 4⟩
theorem RowL.at_ (h : RowL w ln n last gm ch) (k : Nat) (hk : k < 9) (x : Ac) (hx : last[k]? = some x) : w.cell? ⟨ln, 1 + k * 4, none⟩ = some (.bool x.is) ∧ w.cell? ⟨ln, 1 + k * 4 + 1, none⟩ = some (.int .u32 x.b.round) ∧ w.cell? ⟨ln, 1 + k * 4 + 2, none⟩ = some (.int .u8 x.b.node) ∧ w.cell? ⟨ln, 1 + k * 4 + 3, none⟩ = some (.string x.v) := by
  have := fun i hi => lrow_last (n := n) (gm := gm) (ch := ch) h.2 k i hk hi x hx
  simp only [RowL.cell h]
  exact ⟨this 0 (by omega), this 1 (by omega), this 2 (by omega), this 3 (by omega)⟩
/-- a learner with its map; at most c entries -/
structure LnW (w : World) (B ln gm n : Nat) (last : List Ac) (ch : Ac) (c : Nat) : Prop where
  map : ∃ m, m ≤ c ∧ CntA w gm m (cf last)
  row : RowL w ln n last gm ch
  base : B ≤ ln
  gbase : B ≤ gm
  ne : ln ≠ gm
  n1 : 1 ≤ n
  n9 : n ≤ 9
  ok : ∀ x ∈ last, x.Ok
  cv : ch.v.size ≤ 281474976710656
theorem LnW.glt (h : LnW w B ln gm n last ch c) : gm < w.heap.size := by obtain ⟨m, _, hm⟩ := h.map; exact hm.lt
theorem LnW.hlt (h : LnW w B ln gm n last ch c) : ln < w.heap.size := RowL.lt h.row
theorem LnW.keep {U : List Nat} (h : LnW w B ln gm n last ch c) (k : Keep U w w') (h1 : ln ∉ U) (h2 : gm ∉ U) : LnW w' B ln gm n last ch c := by
  obtain ⟨m, hc, hm⟩ := h.map
  exact ⟨⟨m, hc, hm.keep k h2⟩, RowL.keep h.row k h1, h.base, h.gbase, h.ne, h.n1, h.n9, h.ok, h.cv⟩
theorem LnW.below (h : LnW w B ln gm n last ch c) (b : Below w.heap.size w w') : LnW w' B ln gm n last ch c := h.keep (Keep.of_below b []) (by simp) (by simp)
theorem LnW.down {B' : Nat} (h : LnW w B ln gm n last ch c) (hb : B' ≤ B) : LnW w B' ln gm n last ch c := ⟨h.map, h.row, Nat.le_trans hb h.base, Nat.le_trans hb h.gbase, h.ne, h.n1, h.n9, h.ok, h.cv⟩
theorem LnW.more {c' : Nat} (h : LnW w B ln gm n last ch c) (hc : c ≤ c') : LnW w B ln gm n last ch c' := by
  obtain ⟨m, h1, hm⟩ := h.map
  exact ⟨⟨m, Nat.le_trans h1 hc, hm⟩, h.row, h.base, h.gbase, h.ne, h.n1, h.n9, h.ok, h.cv⟩
theorem a0ok : a0.Ok := ⟨b0ok, by decide⟩
theorem LnW.new (w : World) (n : Nat) (h1 : 1 ≤ n) (h2 : n ≤ 9) : LnW ((w.alloc (.map #[] 0)).alloc (.cells ⟨lrow n none9 w.heap.size a0⟩ 90)) w.heap.size (w.heap.size + 1) w.heap.size n none9 a0 0 := by
  have hs : (w.alloc (.map #[] 0)).heap.size = w.heap.size + 1 := by simp
  have hn := heap_alloc_new (w.alloc (.map #[] 0)) (.cells ⟨lrow n none9 w.heap.size a0⟩ 90)
  rw [hs] at hn
  refine ⟨⟨0, Nat.le_refl _, ?_⟩, ⟨hn, by simp⟩, by omega, Nat.le_refl _, by omega, h1, h2, ?_, by decide⟩
  · exact ((MapK.made w).keep (Keep.of_below (below_alloc (Below.refl _ _) _) []) (by simp)).ext fun i _ => cf_none9 i
  · intro x hx
    rw [List.mem_replicate] at hx
    rw [hx.2]; exact a0ok
set_option maxHeartbeats 800000 in
theorem lnew_yes (n : Nat) (h1 : 1 ≤ n) (h2 : n ≤ 9) (w : World) : Calls Try.prog 9 #[.int .i64 (n : Int)] w fun e w' =>
    ∃ ln gm, e = .returned (.tuple #[.pointer (some ⟨ln, 0, none⟩), .int .i64 0]) ∧ LnW w' w.heap.size ln gm n none9 a0 0 ∧ Below w.heap.size w w' := by
  have HN := Lib.hid (LnW.new w n h1 h2)
  have C := Lib.hid (fun w => by
    have := maybe_any (n : Int) w
    rw [decide_eq_true (by omega : (1 : Int) ≤ (n : Int) ∧ (n : Int) ≤ 9)] at this; exact this)
  clear h1 h2
  have hmm := @run_makeMap Try.prog
  go_enter Try.func9, Try.ntmps9
  go_wp2_with fail
  refine (C.out _).mono ?_; rintro e w1 ⟨rfl, rfl⟩
  go_wp2_with fail
  go_ret2
  exact ⟨_, _, rfl, HN.out, below_alloc (below_alloc (Below.refl _ _) _) _⟩
set_option maxHeartbeats 800000 in
theorem lnew_no (n : Int) (h : ¬ (1 ≤ n ∧ n ≤ 9)) (w : World) : Calls Try.prog 9 #[.int .i64 n] w fun e w' => e = .returned (.tuple #[.pointer none, .int .i64 1]) ∧ w = w' := by
  have C := Lib.hid (fun w => by
    have := maybe_any n w
    rw [decide_eq_false h] at this; exact this)
  clear h
  go_enter Try.func9, Try.ntmps9
  go_wp2_with fail
  refine (C.out _).mono ?_; rintro e w1 ⟨rfl, rfl⟩
  go_wp2_with fail
  go_ret2
  exact ⟨rfl, rfl⟩
set_option maxHeartbeats 800000 in
theorem chosen_nil (w : World) : Calls Try.prog 19 #[.pointer none] w fun e w' => e = .returned (.tuple #[.string ⟨#[]⟩, .bool false]) ∧ w = w' := by
  go_enter Try.func19, Try.ntmps19
  go_wp2_with fail
  go_ret2
  exact ⟨rfl, rfl⟩
set_option maxHeartbeats 800000 in
theorem chosen_any (w : World) (h : LnW w B ln gm n last ch c) : Calls Try.prog 19 #[.pointer (some ⟨ln, 0, none⟩)] w fun e w' => e = .returned (.tuple #[.string ch.v, .bool ch.is]) ∧ Below w.heap.size w w' := by
  obtain ⟨_, c1, _, _, c4⟩ := RowL.end h.row
  have x1 := cell_regrown c1; have x4 := cell_regrown c4
  clear h c1 c4
  go_enter Try.func19, Try.ntmps19
  go_upto_region 3 with (fail)
  refine wp_region_quiet_below (by kernel_rfl) (by kernel_rfl) ?_
  repeat (go_big_quiet_step (fail))
  refine wpQuiet_nil ?_
  intro _ hw'
  obtain ⟨⟨dq, osq⟩, hw''⟩ := hw'
  subst hw''
  have lk := below_regrown w dq osq
  go_wp2_with fail
  go_ret2
  exact ⟨rfl, lk⟩
set_option maxHeartbeats 800000 in
theorem accepted_nil (fr : Int) (b : Bl) (v : ByteArray) (w : World) : Calls Try.prog 16 #[.pointer none, .int .i64 fr, b.ag, .string v] w fun e w' => e = .returned (.tuple #[.string ⟨#[]⟩, .bool false]) ∧ Below w.heap.size w w' := by
  go_enter Try.func16, Try.ntmps16
  go_wp2_with fail
  go_ret2
  exact ⟨rfl, below_alloc (Below.refl _ _) _⟩
end
end Go.Proofs.Ytgfalpiifgoonaa
