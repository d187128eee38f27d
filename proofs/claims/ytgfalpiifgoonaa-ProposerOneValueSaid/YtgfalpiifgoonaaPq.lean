/- Promise. -/
import Derived.Test.YtgfalpiifgoonaaPm
namespace Go.Proofs.Ytgfalpiifgoonaa
open Go.RowKit Go.Sort
set_option linter.unusedVariables false
set_option linter.unusedSectionVars false
set_option linter.unusedSimpArgs false
set_option maxRecDepth 100000

abbrev Pk.obj (p : Pk) : Obj := .cells #[.int .i64 p.from_, .int .u32 p.b.round, .int .u8 p.b.node] 94
abbrev Row3 (w : World) (bx : Nat) (p : Pk) : Prop := w.heap[bx]? = some (.cells #[.int .i64 p.from_, .int .u32 p.b.round, .int .u8 p.b.node] 94 (0, 0))
section
variable {w w' : World} {B hn gm node n : Nat} {bal b : Bl} {S : Nat → Bool} {best a : Ac}
theorem Row3.lt {bx : Nat} {p : Pk} (h : Row3 w bx p) : bx < w.heap.size := (Array.getElem?_eq_some_iff.1 h).1
theorem Row3.below {bx : Nat} {p : Pk} (h : Row3 w bx p) (b : Below w.heap.size w w') : Row3 w' bx p := (b.block bx (Row3.lt h)).trans h
theorem Row3.new (w : World) (p : Pk) : Row3 (w.alloc p.obj) w.heap.size p := heap_alloc_new w _
theorem Row3.all {bx : Nat} {p : Pk} (h : Row3 w bx p) : w.cell? ⟨bx, 0, none⟩ = some (.int .i64 p.from_) ∧ w.cell? ⟨bx, 1, none⟩ = some (.int .u32 p.b.round) ∧ w.cell? ⟨bx, 2, none⟩ = some (.int .u8 p.b.node) :=
  ⟨cell_of_row w bx 0 _ _ (0, 0) h, cell_of_row w bx 1 _ _ (0, 0) h, cell_of_row w bx 2 _ _ (0, 0) h⟩
theorem aw_hit {k : Nat} (hk : k < n) (hs : S k = true) : aw n bal S ⟨(k : Int), bal⟩ = some () := by simp [aw, hk, hs]
theorem aw_wout {k : Nat} (hk : k < n) (p : Pk) : aw n bal (wout S k) p = up (aw n bal S) ⟨(k : Int), bal⟩ none p := by
  obtain ⟨fr, pb⟩ := p
  by_cases e : (⟨fr, pb⟩ : Pk) = ⟨(k : Int), bal⟩
  · rw [e, up_same]
    simp [aw, wout]
  · rw [up_other _ _ e]
    simp only [Pk.mk.injEq] at e
    by_cases hb : pb = bal
    · subst hb
      have h1 : ¬ fr = k := fun h => e ⟨h, rfl⟩
      by_cases h0 : 0 ≤ fr
      · have h2 : ¬ fr.toNat = k := by omega
        simp [aw, wout, h2]
      · simp [aw, h0]
    · simp [aw, hb]
set_option maxHeartbeats 800000 in
theorem promise_nil (fr : Int) (w : World) : Calls Try.prog 14 #[.pointer none, .int .i64 fr, b.ag, a.ag] w fun e w' => e = .returned (.tuple #[.string ⟨#[]⟩, .bool false]) ∧ Below w.heap.size w w' := by
  go_enter Try.func14, Try.ntmps14
  go_wp2_with fail
  go_ret2
  exact ⟨rfl, below_alloc (below_alloc (Below.refl _ _) _) _⟩
set_option maxHeartbeats 1600000 in
theorem promise_miss (fr : Int) (hfr : (Lit.int .i64 fr).wf = true) (hbo : b.Ok) (w : World) (h : PrW w B hn gm node n bal S best) (hit : aw n bal S ⟨fr, b⟩ = none) :
    Calls Try.prog 14 #[.pointer (some ⟨hn, 0, none⟩), .int .i64 fr, b.ag, a.ag] w fun e w' => e = .returned (.tuple #[.string ⟨#[]⟩, .bool false]) ∧ Below w.heap.size w w' := by
  obtain ⟨W, hW⟩ : ∃ W, W = ((w.alloc b.obj).alloc a.obj).alloc (Pk.obj ⟨fr, b⟩) := ⟨_, rfl⟩
  have bW : Below w.heap.size w W := by rw [hW]; exact below_alloc (below_alloc (below_alloc (Below.refl _ _) _) _) _
  have hz : W.heap.size = w.heap.size + 3 := by rw [hW]; simp
  have ka : RowA W (w.heap.size + 1) a := by
    have := (RowA.new (w.alloc b.obj) a).below (below_alloc (Below.refl _ _) (Pk.obj ⟨fr, b⟩))
    rw [← hW, show (w.alloc b.obj).heap.size = w.heap.size + 1 by simp] at this; exact this
  have kp : Row3 W (w.heap.size + 2) ⟨fr, b⟩ := by
    have := Row3.new ((w.alloc b.obj).alloc a.obj) ⟨fr, b⟩
    rw [← hW, show ((w.alloc b.obj).alloc a.obj).heap.size = w.heap.size + 2 by simp] at this; exact this
  have hok : (⟨fr, b⟩ : Pk).Ok := ⟨hfr, hbo⟩
  have t := h.below bW
  have b4 := (below_alloc (Below.refl W.heap.size W) (.cells #[] 92)).drew
  have t4 := t.below b4
  have ka4 := RowA.below ka b4
  have kp4 := Row3.below kp b4
  have l1 := (t.map.keep (Keep.of_below (Below.refl W.heap.size W).drew []) (by simp)).look kPk ⟨fr, b⟩ hok
  have l2 := fun o => ((t.map.keep (Keep.of_below (below_alloc (Below.refl W.heap.size W) o).drew []) (by simp))).look kPk ⟨fr, b⟩ hok
  rw [hit] at l1
  simp only [hit] at l2
  have BW := Lib.hid (bW.trans (b4.mono (by omega)))
  have T4 := Lib.hid t4; have KA := Lib.hid ka4; have KP := Lib.hid kp4
  obtain ⟨_, _, _, _, c4, _⟩ := t.all
  have c4a := fun o => (RowP.all (t.below (below_alloc (Below.refl _ _) o)).row).2.2.2.2.1
  obtain ⟨p0, p1, p2⟩ := Row3.all kp
  have p0a := fun o => (Row3.all (Row3.below kp (below_alloc (Below.refl _ _) o))).1
  have p1a := fun o => (Row3.all (Row3.below kp (below_alloc (Below.refl _ _) o))).2.1
  have p2a := fun o => (Row3.all (Row3.below kp (below_alloc (Below.refl _ _) o))).2.2
  simp only [Pk.ag, Option.getD_none, Option.getD_some, Option.isSome_none, Option.isSome_some] at l1 l2 hW p0 p1 p2 p0a p1a p2a T4 KA KP BW
  simp only [Bl.obj, Ac.obj, Pk.obj] at hW
  clear t b4 t4 ka4 kp4 ka kp bW hok hit
  go_enter Try.func14, Try.ntmps14
  go_upto_region 4 with (fail)
  rw [← hW]
  clear hW hz
  generalize hbi : w.heap.size = bi at *
  go_region
  clear l1 l2 c4 c4a p0 p1 p2 p0a p1a p2a
  generalize (W.alloc (.cells #[] 92)).drew = W4 at *
  clear T4 KA KP
  go_wp2_with fail
  go_ret2
  exact ⟨rfl, by rw [hbi]; exact BW.out⟩
set_option maxHeartbeats 3200000 in
theorem promise_more (k : Nat) (hk : k < n) (hs : S k = true) (hav : a.v.size ≤ 281474976710656) (w : World) (h : PrW w B hn gm node n bal S best) (hm : ¬ n < 2 * (n - cnt n (wout S k))) :
    Calls Try.prog 14 #[.pointer (some ⟨hn, 0, none⟩), .int .i64 (k : Int), bal.ag, a.ag] w fun e w' => e = .returned (.tuple #[.string ⟨#[]⟩, .bool false]) ∧ PrW w' B hn gm node n bal (wout S k) (wg best a) ∧ Keep [hn, gm] w w' := by
  obtain ⟨fr, hfe⟩ : ∃ fr : Int, fr = (k : Int) := ⟨_, rfl⟩
  have hfr : (Lit.int .i64 fr).wf = true := by
    have := h.n9
    rw [hfe]
    simp [Lit.wf, IntKind.min, IntKind.max, IntKind.signed, IntKind.bits]; omega
  have hit : aw n bal S ⟨fr, bal⟩ = some () := by rw [hfe]; exact aw_hit hk hs
  obtain ⟨b, hbe⟩ : ∃ b, b = bal := ⟨_, rfl⟩
  have hbo : b.Ok := by rw [hbe]; exact h.bok
  rw [← hfe]
  rw [show bal.ag = b.ag by rw [hbe]]
  rw [← hbe] at hit
  have HC := Lib.hid (cnt_wout n S k hk hs)
  have HFE := Lib.hid hfe
  have HBE := Lib.hid hbe
  have hit : aw n bal S ⟨fr, b⟩ = some () := by rw [HBE.out] at hit ⊢; exact hit
  have HM := Lib.hid hm
  have HSK := Lib.hid hs
  have hok' : (⟨fr, b⟩ : Pk).Ok := ⟨hfr, hbo⟩
  have HP := Lib.hid (PrW.mk (w := w) h.map h.row h.base h.gbase h.ne h.n1 h.n9 h.nd h.bok h.vok)
  have hwv : (wg best a).v.size ≤ 281474976710656 := by
    unfold wg
    split
    · exact hav
    · exact h.vok
  clear hfe hbe hm hs
  obtain ⟨W, hW⟩ : ∃ W, W = ((w.alloc b.obj).alloc a.obj).alloc (Pk.obj ⟨fr, b⟩) := ⟨_, rfl⟩
  have bW : Below w.heap.size w W := by rw [hW]; exact below_alloc (below_alloc (below_alloc (Below.refl _ _) _) _) _
  have hz : W.heap.size = w.heap.size + 3 := by rw [hW]; simp
  have ka : RowA W (w.heap.size + 1) a := by
    have := (RowA.new (w.alloc b.obj) a).below (below_alloc (Below.refl _ _) (Pk.obj ⟨fr, b⟩))
    rw [← hW, show (w.alloc b.obj).heap.size = w.heap.size + 1 by simp] at this; exact this
  have kp : Row3 W (w.heap.size + 2) ⟨fr, b⟩ := by
    have := Row3.new ((w.alloc b.obj).alloc a.obj) ⟨fr, b⟩
    rw [← hW, show ((w.alloc b.obj).alloc a.obj).heap.size = w.heap.size + 2 by simp] at this; exact this
  have hok := hok'
  have t := h.below bW
  have b4 := (below_alloc (Below.refl W.heap.size W) (.cells #[] 92)).drew
  have t4 := t.below b4
  have ka4 := RowA.below ka b4
  have kp4 := Row3.below kp b4
  have l1 := (t.map.keep (Keep.of_below (Below.refl W.heap.size W).drew []) (by simp)).look kPk ⟨fr, b⟩ hok
  have l2 := fun o => ((t.map.keep (Keep.of_below (below_alloc (Below.refl W.heap.size W) o).drew []) (by simp))).look kPk ⟨fr, b⟩ hok
  rw [hit] at l1
  simp only [hit] at l2
  have BW := Lib.hid (bW.trans (b4.mono (by omega)))
  have T4 := Lib.hid t4; have KA := Lib.hid ka4; have KP := Lib.hid kp4
  have HL := Lib.hid (show hn < w.heap.size ∧ gm < w.heap.size from ⟨h.hlt, h.glt⟩)
  obtain ⟨_, _, _, _, c4, _⟩ := t.all
  have c4a := fun o => (RowP.all (t.below (below_alloc (Below.refl _ _) o)).row).2.2.2.2.1
  obtain ⟨p0, p1, p2⟩ := Row3.all kp
  have p0a := fun o => (Row3.all (Row3.below kp (below_alloc (Below.refl _ _) o))).1
  have p1a := fun o => (Row3.all (Row3.below kp (below_alloc (Below.refl _ _) o))).2.1
  have p2a := fun o => (Row3.all (Row3.below kp (below_alloc (Below.refl _ _) o))).2.2
  simp only [Pk.ag, Option.getD_none, Option.getD_some, Option.isSome_none, Option.isSome_some] at l1 l2 hW p0 p1 p2 p0a p1a p2a T4 KA KP BW
  simp only [Bl.obj, Ac.obj, Pk.obj] at hW
  clear hfr hbo t b4 t4 ka4 kp4 ka kp bW hok hit
  go_enter Try.func14, Try.ntmps14
  go_upto_region 4 with (fail)
  rw [← hW]
  clear hW hz
  generalize hbi : w.heap.size = bi at *
  go_region
  clear l1 l2 c4 c4a p0 p1 p2 p0a p1a p2a
  generalize (W.alloc (.cells #[] 92)).drew = W4 at *
  have hne : hn ≠ gm := HP.out.ne
  have hl := HL.out
  obtain ⟨_, _, _, _, c4, _⟩ := T4.out.all
  obtain ⟨p0, p1, p2⟩ := Row3.all KP.out
  have x0 := cell_regrown p0; have x1 := cell_regrown p1; have x2 := cell_regrown p2; have x4 := cell_regrown c4
  clear c4 p0 p1 p2
  go_upto_region 7 with (fail)
  refine region_tail 5 (by kernel_rfl) (by kernel_rfl) ?_
  simp only [List.take_succ_cons, List.take_zero, List.drop_succ_cons, List.drop_zero]
  repeat (go_big_quiet_step (fail))
  refine wpQuiet_nil ?_
  intro _ hw'
  obtain ⟨⟨dq, osq⟩, hw''⟩ := hw'
  subst hw''
  have lk := below_regrown W4 dq osq
  have t5 := T4.out.below lk
  obtain ⟨w5, hr5, m5, k5⟩ := t5.map.del kPk ⟨fr, b⟩ hok' 0
  have m6 : SetP w5 gm (cnt n (wout S k)) (aw n bal (wout S k)) := by
    have e1 : aw n bal S ⟨fr, b⟩ = some () := by rw [HFE.out, HBE.out]; exact aw_hit hk HSK.out
    rw [e1] at m5
    have e2 : (if (some ()).isSome = true then cnt n S - 1 else cnt n S) = cnt n (wout S k) := by simp only [Option.isSome_some, if_true]; rw [HC.out]; omega
    rw [e2] at m5
    exact m5.ext fun p _ => by rw [HFE.out, HBE.out]; exact aw_wout hk p
  have r5 : RowP w5 hn node n bal gm best := row_keep t5.row k5 (by simpa using hne)
  have q5 : RowA w5 (bi + 1) a := row_keep (RowA.below KA.out lk) k5 (by simp; omega)
  have bK : Keep [hn, gm] w (grow (redrawn W4 dq) osq) := Keep.of_below (by rw [hbi]; exact BW.out.trans (lk.mono (by have := BW.out.size; omega))) _
  have K5 := Lib.hid (bK.trans (k5.mono (by simp)))
  have HR5 := Lib.hid hr5; have M6 := Lib.hid m6; have R5 := Lib.hid r5
  simp only [Pk.ag] at HR5
  obtain ⟨q0, q1, q2, q3, _⟩ := RowA.all q5
  clear x0 x1 x2 x4 lk t5 m5 m6 r5 q5 k5 hr5 bK T4 KA KP BW
  go_upto_region 8 with (refine wpList_delq rfl (.tmp 32) (.tmp 33) _ _ rfl rfl rfl HR5.out ?_)
  clear HR5
  generalize grow (redrawn W4 dq) osq = W5x at *
  have CW := Lib.hid (show Calls Try.prog 26 #[.pointer (some ⟨hn, 0, none⟩), a.ag] w5 (WgEnd w5 hn node n bal gm (wg best a)) by
    unfold wg
    cases hh : heavy best a
    · exact weigh_no hh _ R5.out
    · exact weigh_yes hh hav _ R5.out)
  simp only [Ac.ag] at CW
  go_wp2_with fail
  refine CW.out.mono ?_; rintro e w6 ⟨rfl, r6, k6⟩
  have m6 := M6.out.keep k6 (by simpa using Ne.symm hne)
  have K6 := Lib.hid (K5.out.trans (k6.mono (by simp)))
  have R6 := Lib.hid r6; have M7 := Lib.hid m6
  obtain ⟨_, c1, _, _, c4, _⟩ := RowP.all r6
  have y1 := cell_regrown c1; have y4 := cell_regrown c4
  have hln := fun d os => (m6.keep (Keep.of_below (below_regrown w6 d os) []) (by simp)).len kPk 3
  have hcl := cnt_le n (wout S k)
  have hn9 := HP.out.n9
  have e1 : IntKind.i64.wrap ((n : Int) - (cnt n (wout S k) : Int)) = ((n - cnt n (wout S k) : Nat) : Int) := by rw [IntWalk.i64_in _ (by omega)]; omega
  have hdm : decide (n < 2 * (n - cnt n (wout S k))) = false := decide_eq_false HM.out
  have MJ := Lib.hid (fun d os => Calls.regrown_of (same_below (by
    have := majority_any (n - cnt n (wout S k)) n (by omega) (by omega) (grow (redrawn w6 d) os)
    rw [hdm] at this
    exact this)))
  clear r6 k6 m6 c1 c4 q0 q1 q2 q3 R5 M6 K5 CW hcl hdm
  generalize hcc : (n - cnt n (wout S k) : Nat) = cc at *
  go_upto_region 9 with (fail)
  refine wp_region_quiet_below (by kernel_rfl) (by kernel_rfl) ?_
  repeat (go_big_quiet_step (exact MJ.out _ _))
  refine wpQuiet_nil ?_
  intro _ hw'
  obtain ⟨⟨dq2, osq2⟩, hw''⟩ := hw'
  subst hw''
  have lk2 := below_regrown w6 dq2 osq2
  have R7 := Lib.hid (RowP.below R6.out lk2); have M8 := Lib.hid (M7.out.keep (Keep.of_below lk2 []) (by simp)); have K7 := Lib.hid (K6.out.trans (Keep.of_below lk2 _))
  clear y1 y4 hln e1 MJ lk2 R6 M7 K6
  generalize grow (redrawn w6 dq2) osq2 = w7 at *
  go_wp2_with fail
  go_ret2
  have p := HP.out
  exact ⟨rfl, ⟨M8.out, R7.out, p.base, p.gbase, p.ne, p.n1, p.n9, p.nd, p.bok, hwv⟩, K7.out⟩
set_option maxHeartbeats 3200000 in
theorem promise_done (k : Nat) (hk : k < n) (hs : S k = true) (hav : a.v.size ≤ 281474976710656) (w : World) (h : PrW w B hn gm node n bal S best) (hm : n < 2 * (n - cnt n (wout S k))) :
    Calls Try.prog 14 #[.pointer (some ⟨hn, 0, none⟩), .int .i64 (k : Int), bal.ag, a.ag] w fun e w' => e = .returned (.tuple #[.string (wg best a).v, .bool true]) ∧ PrW w' B hn gm node n bal (fun _ => false) (wg best a) ∧ Keep [hn, gm] w w' := by
  obtain ⟨fr, hfe⟩ : ∃ fr : Int, fr = (k : Int) := ⟨_, rfl⟩
  have hfr : (Lit.int .i64 fr).wf = true := by
    have := h.n9
    rw [hfe]
    simp [Lit.wf, IntKind.min, IntKind.max, IntKind.signed, IntKind.bits]; omega
  have hit : aw n bal S ⟨fr, bal⟩ = some () := by rw [hfe]; exact aw_hit hk hs
  obtain ⟨b, hbe⟩ : ∃ b, b = bal := ⟨_, rfl⟩
  have hbo : b.Ok := by rw [hbe]; exact h.bok
  rw [← hfe]
  rw [show bal.ag = b.ag by rw [hbe]]
  rw [← hbe] at hit
  have HC := Lib.hid (cnt_wout n S k hk hs)
  have HFE := Lib.hid hfe
  have HBE := Lib.hid hbe
  have hit : aw n bal S ⟨fr, b⟩ = some () := by rw [HBE.out] at hit ⊢; exact hit
  have HM := Lib.hid hm
  have HSK := Lib.hid hs
  have hok' : (⟨fr, b⟩ : Pk).Ok := ⟨hfr, hbo⟩
  have HP := Lib.hid (PrW.mk (w := w) h.map h.row h.base h.gbase h.ne h.n1 h.n9 h.nd h.bok h.vok)
  have hwv : (wg best a).v.size ≤ 281474976710656 := by
    unfold wg
    split
    · exact hav
    · exact h.vok
  clear hfe hbe hm hs
  obtain ⟨W, hW⟩ : ∃ W, W = ((w.alloc b.obj).alloc a.obj).alloc (Pk.obj ⟨fr, b⟩) := ⟨_, rfl⟩
  have bW : Below w.heap.size w W := by rw [hW]; exact below_alloc (below_alloc (below_alloc (Below.refl _ _) _) _) _
  have hz : W.heap.size = w.heap.size + 3 := by rw [hW]; simp
  have ka : RowA W (w.heap.size + 1) a := by
    have := (RowA.new (w.alloc b.obj) a).below (below_alloc (Below.refl _ _) (Pk.obj ⟨fr, b⟩))
    rw [← hW, show (w.alloc b.obj).heap.size = w.heap.size + 1 by simp] at this; exact this
  have kp : Row3 W (w.heap.size + 2) ⟨fr, b⟩ := by
    have := Row3.new ((w.alloc b.obj).alloc a.obj) ⟨fr, b⟩
    rw [← hW, show ((w.alloc b.obj).alloc a.obj).heap.size = w.heap.size + 2 by simp] at this; exact this
  have hok := hok'
  have t := h.below bW
  have b4 := (below_alloc (Below.refl W.heap.size W) (.cells #[] 92)).drew
  have t4 := t.below b4
  have ka4 := RowA.below ka b4
  have kp4 := Row3.below kp b4
  have l1 := (t.map.keep (Keep.of_below (Below.refl W.heap.size W).drew []) (by simp)).look kPk ⟨fr, b⟩ hok
  have l2 := fun o => ((t.map.keep (Keep.of_below (below_alloc (Below.refl W.heap.size W) o).drew []) (by simp))).look kPk ⟨fr, b⟩ hok
  rw [hit] at l1
  simp only [hit] at l2
  have BW := Lib.hid (bW.trans (b4.mono (by omega)))
  have T4 := Lib.hid t4; have KA := Lib.hid ka4; have KP := Lib.hid kp4
  have HL := Lib.hid (show hn < w.heap.size ∧ gm < w.heap.size from ⟨h.hlt, h.glt⟩)
  obtain ⟨_, _, _, _, c4, _⟩ := t.all
  have c4a := fun o => (RowP.all (t.below (below_alloc (Below.refl _ _) o)).row).2.2.2.2.1
  obtain ⟨p0, p1, p2⟩ := Row3.all kp
  have p0a := fun o => (Row3.all (Row3.below kp (below_alloc (Below.refl _ _) o))).1
  have p1a := fun o => (Row3.all (Row3.below kp (below_alloc (Below.refl _ _) o))).2.1
  have p2a := fun o => (Row3.all (Row3.below kp (below_alloc (Below.refl _ _) o))).2.2
  simp only [Pk.ag, Option.getD_none, Option.getD_some, Option.isSome_none, Option.isSome_some] at l1 l2 hW p0 p1 p2 p0a p1a p2a T4 KA KP BW
  simp only [Bl.obj, Ac.obj, Pk.obj] at hW
  clear hfr hbo t b4 t4 ka4 kp4 ka kp bW hok hit
  go_enter Try.func14, Try.ntmps14
  go_upto_region 4 with (fail)
  rw [← hW]
  clear hW hz
  generalize hbi : w.heap.size = bi at *
  go_region
  clear l1 l2 c4 c4a p0 p1 p2 p0a p1a p2a
  generalize (W.alloc (.cells #[] 92)).drew = W4 at *
  have hne : hn ≠ gm := HP.out.ne
  have hl := HL.out
  obtain ⟨_, _, _, _, c4, _⟩ := T4.out.all
  obtain ⟨p0, p1, p2⟩ := Row3.all KP.out
  have x0 := cell_regrown p0; have x1 := cell_regrown p1; have x2 := cell_regrown p2; have x4 := cell_regrown c4
  clear c4 p0 p1 p2
  go_upto_region 7 with (fail)
  refine region_tail 5 (by kernel_rfl) (by kernel_rfl) ?_
  simp only [List.take_succ_cons, List.take_zero, List.drop_succ_cons, List.drop_zero]
  repeat (go_big_quiet_step (fail))
  refine wpQuiet_nil ?_
  intro _ hw'
  obtain ⟨⟨dq, osq⟩, hw''⟩ := hw'
  subst hw''
  have lk := below_regrown W4 dq osq
  have t5 := T4.out.below lk
  obtain ⟨w5, hr5, m5, k5⟩ := t5.map.del kPk ⟨fr, b⟩ hok' 0
  have m6 : SetP w5 gm (cnt n (wout S k)) (aw n bal (wout S k)) := by
    have e1 : aw n bal S ⟨fr, b⟩ = some () := by rw [HFE.out, HBE.out]; exact aw_hit hk HSK.out
    rw [e1] at m5
    have e2 : (if (some ()).isSome = true then cnt n S - 1 else cnt n S) = cnt n (wout S k) := by simp only [Option.isSome_some, if_true]; rw [HC.out]; omega
    rw [e2] at m5
    exact m5.ext fun p _ => by rw [HFE.out, HBE.out]; exact aw_wout hk p
  have r5 : RowP w5 hn node n bal gm best := row_keep t5.row k5 (by simpa using hne)
  have q5 : RowA w5 (bi + 1) a := row_keep (RowA.below KA.out lk) k5 (by simp; omega)
  have bK : Keep [hn, gm] w (grow (redrawn W4 dq) osq) := Keep.of_below (by rw [hbi]; exact BW.out.trans (lk.mono (by have := BW.out.size; omega))) _
  have K5 := Lib.hid (bK.trans (k5.mono (by simp)))
  have HR5 := Lib.hid hr5; have M6 := Lib.hid m6; have R5 := Lib.hid r5
  simp only [Pk.ag] at HR5
  obtain ⟨q0, q1, q2, q3, _⟩ := RowA.all q5
  clear x0 x1 x2 x4 lk t5 m5 m6 r5 q5 k5 hr5 bK T4 KA KP BW
  go_upto_region 8 with (refine wpList_delq rfl (.tmp 32) (.tmp 33) _ _ rfl rfl rfl HR5.out ?_)
  clear HR5
  generalize grow (redrawn W4 dq) osq = W5x at *
  have CW := Lib.hid (show Calls Try.prog 26 #[.pointer (some ⟨hn, 0, none⟩), a.ag] w5 (WgEnd w5 hn node n bal gm (wg best a)) by
    unfold wg
    cases hh : heavy best a
    · exact weigh_no hh _ R5.out
    · exact weigh_yes hh hav _ R5.out)
  simp only [Ac.ag] at CW
  go_wp2_with fail
  refine CW.out.mono ?_; rintro e w6 ⟨rfl, r6, k6⟩
  have m6 := M6.out.keep k6 (by simpa using Ne.symm hne)
  have K6 := Lib.hid (K5.out.trans (k6.mono (by simp)))
  have R6 := Lib.hid r6; have M7 := Lib.hid m6
  obtain ⟨_, c1, _, _, c4, _⟩ := RowP.all r6
  have y1 := cell_regrown c1; have y4 := cell_regrown c4
  have hln := fun d os => (m6.keep (Keep.of_below (below_regrown w6 d os) []) (by simp)).len kPk 3
  have hcl := cnt_le n (wout S k)
  have hn9 := HP.out.n9
  have e1 : IntKind.i64.wrap ((n : Int) - (cnt n (wout S k) : Int)) = ((n - cnt n (wout S k) : Nat) : Int) := by rw [IntWalk.i64_in _ (by omega)]; omega
  have hdm : decide (n < 2 * (n - cnt n (wout S k))) = true := decide_eq_true HM.out
  have MJ := Lib.hid (fun d os => Calls.regrown_of (same_below (by
    have := majority_any (n - cnt n (wout S k)) n (by omega) (by omega) (grow (redrawn w6 d) os)
    rw [hdm] at this
    exact this)))
  clear r6 k6 m6 c1 c4 q0 q1 q2 q3 R5 M6 K5 CW hcl hdm
  generalize hcc : (n - cnt n (wout S k) : Nat) = cc at *
  go_upto_region 9 with (fail)
  refine wp_region_quiet_below (by kernel_rfl) (by kernel_rfl) ?_
  repeat (go_big_quiet_step (exact MJ.out _ _))
  refine wpQuiet_nil ?_
  intro _ hw'
  obtain ⟨⟨dq2, osq2⟩, hw''⟩ := hw'
  subst hw''
  have lk2 := below_regrown w6 dq2 osq2
  have R7 := Lib.hid (RowP.below R6.out lk2); have M8 := Lib.hid (M7.out.keep (Keep.of_below lk2 []) (by simp)); have K7 := Lib.hid (K6.out.trans (Keep.of_below lk2 _))
  clear y1 y4 hln e1 MJ lk2 R6 M7 K6
  generalize grow (redrawn w6 dq2) osq2 = w7 at *
  obtain ⟨w8, hr8, m8, k8⟩ := M8.out.clear kPk 0
  have r8 : RowP w8 hn node n bal gm (wg best a) := row_keep R7.out k8 (by simpa using hne)
  have K8 := Lib.hid (K7.out.trans (k8.mono (T := [hn, gm]) (by simp)))
  have HR8 := Lib.hid hr8
  obtain ⟨_, _, _, _, c4, _⟩ := RowP.all R7.out
  clear hr8 k8 K7 R7 M8
  go_upto_region 12 with (refine wpList_clr rfl (.tmp 56) _ rfl rfl HR8.out ?_)
  clear c4 HR8
  obtain ⟨_, _, _, _, _, _, _, _, c8⟩ := RowP.all r8
  go_wp2_with fail
  go_ret2
  have p := HP.out
  have m9 : SetP w8 gm (cnt n fun _ => false) (aw n bal fun _ => false) := by
    rw [cnt_none]
    exact m8.ext fun i _ => by simp [aw]
  exact ⟨rfl, ⟨m9, r8, p.base, p.gbase, p.ne, p.n1, p.n9, p.nd, p.bok, hwv⟩, K8.out⟩
end
end Go.Proofs.Ytgfalpiifgoonaa
