/- A node's heard. -/
import Derived.Test.YtlfnkplgjlpaaaaSus
import Derived.Test.YtlfnkplgjlpaaaaQTail
namespace Go.Proofs.Ytlfnkplgjlpaaaa
open Go.RowKit Go.Sort
set_option linter.unusedVariables false

theorem row4_held {w w' : World} {bx : Nat} {c0 c1 c2 c3 : Value} (h : w.cell? ⟨bx, 0, none⟩ = some c0 ∧ w.cell? ⟨bx, 1, none⟩ = some c1 ∧ w.cell? ⟨bx, 2, none⟩ = some c2 ∧ w.cell? ⟨bx, 3, none⟩ = some c3 ∧ w.frozen? ⟨bx, 1, none⟩ = false ∧ bx < w.heap.size) (b : Below w.heap.size w w') :
    w'.cell? ⟨bx, 0, none⟩ = some c0 ∧ w'.cell? ⟨bx, 1, none⟩ = some c1 ∧ w'.cell? ⟨bx, 2, none⟩ = some c2 ∧ w'.cell? ⟨bx, 3, none⟩ = some c3 ∧ w'.frozen? ⟨bx, 1, none⟩ = false ∧ bx < w'.heap.size :=
  have hl := h.2.2.2.2.2
  ⟨(b.cell hl).trans h.1, (b.cell hl).trans h.2.1, (b.cell hl).trans h.2.2.1, (b.cell hl).trans h.2.2.2.1, (b.frozen hl).trans h.2.2.2.2.1, Nat.lt_of_lt_of_le hl b.size⟩
set_option maxRecDepth 10000 in
set_option maxHeartbeats 4000000 in
theorem heard_any (n : Nd) (h : n.Ok) {now : Nat} (hn : now ≤ 1099511627776) (w : World) : Calls Try.prog 36 #[agv n, .int .i64 (now : Int)] w fun e w' => e = .returned (agv (n.heard now)) ∧ Below w.heap.size w w' := by
  have C1 := Lib.hid (show Ret _ _ _ from fun w => susp_any n h hn w)
  obtain ⟨m2, hm2⟩ : ∃ m2, m2 = (if n.susp now then min (2 * n.margin) 4096 else n.margin) := ⟨_, rfl⟩
  have HM2 := Lib.hid hm2
  have hm24 : m2 ≤ 4096 := by rw [hm2]; have := h.marg; split <;> omega
  unfold Nd.heard
  obtain ⟨sl, hsl⟩ : ∃ sl, n.sil now = sl := ⟨_, rfl⟩
  rw [hsl, ← hm2]
  have C2 : Ret _ _ _ := fun w => silence_any ⟨n.id, n.last, n.mean, m2, n.bad⟩ ⟨h.id0, h.id1, h.last, h.mean, hm24⟩ hn w
  rw [show Nd.sil ⟨n.id, n.last, n.mean, m2, n.bad⟩ now = sl from hsl] at C2
  have C2 := Lib.hid C2
  have hsb : sl ≤ 1099511627776 := by rw [← hsl]; unfold Nd.sil; omega
  clear hsl
  by_cases hs4 : (4096 : Int) < (sl : Int)
  all_goals
    cases hb : n.susp now
    all_goals
      rw [hb] at C1 hm2
      clear hb
      simp only [Bool.false_eq_true, if_false, if_true] at hm2
      clear HM2
      obtain ⟨id, last, mean, marg, bad⟩ := n
      obtain ⟨h1, h2, h3, h4, h5⟩ := h
      simp only at h1 h2 h3 h4 h5 hm2
      have r1 := Row4.new w (.int .i64 (last : Int)) (.int .i64 (mean : Int)) (.int .i64 (marg : Int)) (.bool bad)
      have r2 := Row4.new (w.alloc (.cells #[.int .i64 (last : Int), .int .i64 (mean : Int), .int .i64 (marg : Int), .bool bad] 76)) (.int .i64 0) (.int .i64 0) (.int .i64 0) (.bool false)
      have r1 := r1.below (below_alloc (Below.refl _ _) (.cells zcells 76))
      rw [show (w.alloc (.cells #[.int .i64 (last : Int), .int .i64 (mean : Int), .int .i64 (marg : Int), .bool bad] 76)).heap.size = w.heap.size + 1 by simp] at r2
      have R1 := Lib.hid r1; have R2 := Lib.hid r2
      have HB := Lib.hid (below_alloc (below_alloc (Below.refl w.heap.size w) (.cells #[.int .i64 (last : Int), .int .i64 (mean : Int), .int .i64 (marg : Int), .bool bad] 76)) (.cells zcells 76))
      have hq : (mean : Int).tdiv 8 = (mean : Int) / 8 := Int.tdiv_eq_ediv_of_nonneg (by omega)
      have hq2 : 0 ≤ (mean : Int) / 8 ∧ (mean : Int) / 8 ≤ 4096 := by omega
      have HM := Lib.hid hm2
      clear r1 r2 hm2
      go_enter Try.func36, Try.ntmps36
      go_wp2_with fail
      refine (C1.out _).mono ?_; rintro e w1 ⟨rfl, b1⟩
      have R1a := Lib.hid (R1.out.below b1)
      obtain ⟨c0, c1, c2, c3, f0, f1, f2, f3, l1⟩ := R1a.out.all
      have HB1 := Lib.hid (below_next HB.out b1)
      have R2a := Lib.hid (R2.out.below b1)
      clear R1 R2 b1
      go_wp2_with fail
      all_goals
        first
          | (have hmk : m2 = marg := by with_reducible exact HM.out
             have hr2 := R1a.out
             have hr3 := R2a.out
             have hbk := HB1.out
             rw [← hmk] at hr2
             subst hmk
             generalize w1 = w2 at *
             clear c0 c1 c2 c3 f0 f1 f2 f3)
          | (have hr2 := (R1a.out.set (.int .i64 (m2 : Int))).2.2.1
             have hr3 := R2a.out.keep (Keep.setCell w1 ⟨w.heap.size, 2, none⟩ (.int .i64 (m2 : Int))) (by simp)
             have hbk := HB1.out.trans ((Keep.setCell w1 ⟨w.heap.size, 2, none⟩ (.int .i64 (m2 : Int))).below (B := w.heap.size) (by omega) (by simp))
             have HM3 := HM.out
             first
               | rw [show w1.setCell ⟨w.heap.size, 2, none⟩ (.int .i64 (2 * (marg : Int))) = w1.setCell ⟨w.heap.size, 2, none⟩ (.int .i64 (m2 : Int)) by rw [show (2 * (marg : Int)) = (m2 : Int) by omega]]
               | rw [show w1.setCell ⟨w.heap.size, 2, none⟩ (.int .i64 4096) = w1.setCell ⟨w.heap.size, 2, none⟩ (.int .i64 (m2 : Int)) by rw [show (4096 : Int) = (m2 : Int) by omega]]
             clear HM3
             generalize w1.setCell ⟨w.heap.size, 2, none⟩ (.int .i64 (m2 : Int)) = w2 at *
             clear c0 c1 c2 c3 f0 f1 f2 f3 l1)
        have HR2 := Lib.hid hr2; have HR3 := Lib.hid hr3; have HBK := Lib.hid hbk
        obtain ⟨c0, c1, c2, c3, f0, f1, f2, f3, l1⟩ := hr2.all
        have hS := And.intro c0 (And.intro c1 (And.intro c2 (And.intro c3 (And.intro f1 l1))))
        clear HB1 R1a R2a HM hr2 hr3 hbk C1 HB
        clear hS
        have k0 := cell_regrown c0; have k1 := cell_regrown c1; have k2 := cell_regrown c2; have k3 := cell_regrown c3
        clear c0 c1 c2 c3 f0 f1 f2 f3
        refine region_tail 12 (by kernel_rfl) (by kernel_rfl) ?_
        simp only [List.take_succ_cons, List.take_zero, List.drop_succ_cons, List.drop_zero]
        repeat (go_big_quiet_step (exact C2.out.re _ _ _))
        refine wpQuiet_nil ?_
        intro _ hw'
        obtain ⟨⟨dq, osq⟩, hw''⟩ := hw'
        subst hw''
        have lk := below_regrown w2 dq osq
        have HB4 := Lib.hid (HBK.out.trans (lk.mono (by omega)))
        have r4 := HR2.out.below lk
        have q4 := HR3.out.below lk
        have hsz4 : w2.heap.size ≤ (grow (redrawn w2 dq) osq).heap.size := lk.size
        clear k0 k1 k2 k3 HBK HR2 HR3 lk C2
        generalize grow (redrawn w2 dq) osq = w4 at *
        obtain ⟨c0, c1, c2, c3, f0, f1, f2, f3, l4⟩ := r4.all
        obtain ⟨d0, d1, d2, d3, g0, g1, g2, g3, l5⟩ := q4.all
        clear r4 q4
        go_wp2_with fail
        all_goals
          first
            | rw [show ((mean : Int) + (4096 - (mean : Int) / 8)) = ((mean + min sl 4096 - mean / 8 : Nat) : Int) by omega]
            | rw [show ((mean : Int) + ((sl : Int) - (mean : Int) / 8)) = ((mean + min sl 4096 - mean / 8 : Nat) : Int) by omega]
          first
            | rw [show (now : Int) = ((max last now : Nat) : Int) by omega]
            | rw [show (last : Int) = ((max last now : Nat) : Int) by omega]
          generalize mean + min sl 4096 - mean / 8 = nm at *
          generalize max last now = nl at *
          refine bodyPost_ret (v := .agg #[.int .i64 (nl : Int), .int .i64 (nm : Int), .int .i64 (m2 : Int), .bool bad]) (results_cell1 Try.results36 rfl ?_) rfl ⟨rfl, ?_⟩
          · go_simp
          · have k := (((Keep.setCell w4 ⟨w.heap.size, 1, none⟩ (.int .i64 (nm : Int))).trans (Keep.setCell _ ⟨w.heap.size, 0, none⟩ (.int .i64 (nl : Int)))).mono (T := [w.heap.size, w.heap.size + 1]) (by simp)).trans ((lay4_keep _ (w.heap.size + 1) (.int .i64 (nl : Int)) (.int .i64 (nm : Int)) (.int .i64 (m2 : Int)) (.bool bad)).mono (by simp))
            exact HB4.out.trans (k.below (by omega) (by simp))
end Go.Proofs.Ytlfnkplgjlpaaaa
