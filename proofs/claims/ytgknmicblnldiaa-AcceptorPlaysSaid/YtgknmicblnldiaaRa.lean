/- The document's Accept. -/
import Derived.Test.YtgknmicblnldiaaRp
namespace Go.Proofs.Ytgknmicblnldiaa
open Go.RowKit Go.Sort
set_option linter.unusedVariables false

section
variable {w w' : World} {B hb cap most : Nat} {ao : Option Addr} {S : List En} {Bs : List Nat}
set_option maxRecDepth 100000 in
set_option maxHeartbeats 4000000 in
theorem raccept_no (i : In) (b : Bl) (v : ByteArray) (w : World) (hB : B ≤ w.heap.size) (h : Rf w B hb Bs S most) (hs : stt (look S i) S.length most = none) :
    Calls Try.prog 19 #[.pointer (some ⟨hb, 0, none⟩), i.ag, b.ag, .string v] w fun e w' => e = .returned (.tuple #[b0.ag, .bool false, .int .i64 101]) ∧ ∃ Bs', Rf w' B hb Bs' S most ∧ Turned Bs Bs' w w' := by
  obtain ⟨W, hW⟩ : ∃ W, W = ((w.alloc i.obj).alloc b.obj).alloc b0.obj := ⟨_, rfl⟩
  have bW : Below w.heap.size w W := by rw [hW]; exact below_alloc (below_alloc (below_alloc (Below.refl _ _) _) _) _
  have hz : W.heap.size = w.heap.size + 3 := by rw [hW]; simp
  have ki : Row4 W w.heap.size i := by
    have := ((Row4.new w i).below (below_alloc (Below.refl _ _) b.obj)).below (below_alloc (Below.refl _ _) b0.obj)
    rw [← hW] at this; exact this
  have kb : Row2 W (w.heap.size + 1) b := by
    have := (Row2.new (w.alloc i.obj) b).below (below_alloc (Below.refl _ _) b0.obj)
    rw [← hW, show (w.alloc i.obj).heap.size = w.heap.size + 1 by simp] at this; exact this
  have kq : Row2 W (w.heap.size + 2) b0 := by
    have := Row2.new ((w.alloc i.obj).alloc b.obj) b0
    rw [← hW, show ((w.alloc i.obj).alloc b.obj).heap.size = w.heap.size + 2 by simp] at this; exact this
  have HC := Lib.hid (rrow_no i W (by omega) (h.below bW) hs)
  have HNI := Lib.hid (fun q (hq : w.heap.size ≤ q) => h.nin hq)
  obtain ⟨d0, d1, d2, d3⟩ := ki.all
  have HB := Lib.hid bW
  have KI := Lib.hid ki; have KB := Lib.hid kb; have KQ := Lib.hid kq
  have HZ := Lib.hid hz
  clear ki kb kq bW h hB hs
  obtain ⟨tx, ib, ir, ix⟩ := i
  obtain ⟨br, bn⟩ := b
  simp only [In.ag, In.obj, Bl.ag, Bl.obj] at hW HC ⊢
  go_enter Try.func19, Try.ntmps19
  go_upto_region 1 with (fail)
  rw [← hW]
  clear hW hz
  generalize hbi : w.heap.size = bi at *
  go_wp2_with fail
  refine HC.out.mono ?_; rintro e w1 ⟨rfl, Bs', hR, hT⟩
  have q1 : Row2 w1 (bi + 2) b0 := row_keep KQ.out hT.keep (HNI.out _ (by omega))
  obtain ⟨g0, g1, h0, h1⟩ := q1.all
  have HR := Lib.hid hR; have HT := Lib.hid hT
  simp only at g0 g1 h0 h1
  clear q1 hR hT d0 d1 d2 d3 HC KI KB KQ
  go_wp2_with fail
  have kk := lay2_keep w1 (bi + 2) b0
  have htt := (Turned.first (by rw [hbi]; exact HB.out) HT.out).cut kk (by rw [hbi]; simp)
  refine bodyPost_ret (v := .tuple #[.agg #[.int .u32 0, .int .u8 0], .bool false, .int .i64 101]) (res_c1t2 Try.results19 rfl ?_ rfl rfl) rfl ⟨rfl, Bs', ?_, htt⟩
  · go_simp
  · refine HR.out.keep kk fun q hq hm => ?_
    have h3 := (HR.out.blocks q hq)
    rcases HT.out.new q hq with h4 | h4
    · exact HNI.out q (by simp at hm; omega) h4
    · have := HZ.out; simp at hm; omega
set_option maxRecDepth 100000 in
set_option maxHeartbeats 8000000 in
theorem raccept_low (i : In) (b : Bl) (v : ByteArray) (w : World) (hB : B ≤ w.heap.size) (h : Rf w B hb Bs S most) {r : Rw} (hs : stt (look S i) S.length most = some r) (hlow : low b r.p = true) :
    Calls Try.prog 19 #[.pointer (some ⟨hb, 0, none⟩), i.ag, b.ag, .string v] w fun e w' => e = .returned (.tuple #[r.p.ag, .bool false, .int .i64 0]) ∧ ∃ Bs', Rf w' B hb Bs' (rowS S i) most ∧ Turned Bs Bs' w w' := by
  obtain ⟨W, hW⟩ : ∃ W, W = ((w.alloc i.obj).alloc b.obj).alloc b0.obj := ⟨_, rfl⟩
  have bW : Below w.heap.size w W := by rw [hW]; exact below_alloc (below_alloc (below_alloc (Below.refl _ _) _) _) _
  have hz : W.heap.size = w.heap.size + 3 := by rw [hW]; simp
  have ki : Row4 W w.heap.size i := by
    have := ((Row4.new w i).below (below_alloc (Below.refl _ _) b.obj)).below (below_alloc (Below.refl _ _) b0.obj)
    rw [← hW] at this; exact this
  have kb : Row2 W (w.heap.size + 1) b := by
    have := (Row2.new (w.alloc i.obj) b).below (below_alloc (Below.refl _ _) b0.obj)
    rw [← hW, show (w.alloc i.obj).heap.size = w.heap.size + 1 by simp] at this; exact this
  have kq : Row2 W (w.heap.size + 2) b0 := by
    have := Row2.new ((w.alloc i.obj).alloc b.obj) b0
    rw [← hW, show ((w.alloc i.obj).alloc b.obj).heap.size = w.heap.size + 2 by simp] at this; exact this
  have HC := Lib.hid (rrow_ok i W (by omega) (h.below bW) hs)
  have HL := Lib.hid (show Ret _ _ _ from fun w => by have := rless_any b r.p w; rw [hlow] at this; exact this)
  have HNI := Lib.hid (fun q (hq : w.heap.size ≤ q) => h.nin hq)
  clear hlow
  obtain ⟨d0, d1, d2, d3⟩ := ki.all
  have HB := Lib.hid bW
  have KI := Lib.hid ki; have KB := Lib.hid kb; have KQ := Lib.hid kq
  have HZ := Lib.hid hz
  clear ki kb kq bW h hB hs
  obtain ⟨⟨pr, pn⟩, ⟨is, ⟨ar, an⟩, av⟩⟩ := r
  obtain ⟨tx, ib, ir, ix⟩ := i
  obtain ⟨br, bn⟩ := b
  simp only [In.ag, In.obj, Bl.ag, Bl.obj] at hW HC HL ⊢
  go_enter Try.func19, Try.ntmps19
  go_upto_region 1 with (fail)
  rw [← hW]
  clear hW hz
  generalize hbi : w.heap.size = bi at *
  go_wp2_with fail
  refine HC.out.mono ?_; rintro e w1 ⟨j, S', ao', cap', rfl, hj, hS', hR, hT⟩
  obtain ⟨g, rfl, hg, hgB, hcell⟩ := hR.ent hj
  have QN := Lib.hid (fun q (hq : q ∈ hb :: blk (some ⟨g, 0, none⟩)) => show ¬ (bi ≤ q ∧ q < W.heap.size) from fun hm => by
    rcases hT.new q hq with h4 | h4
    · exact HNI.out q hm.1 h4
    · omega)
  have HS' := Lib.hid hS'
  obtain ⟨m, hm⟩ : ∃ m, S'.length = m := ⟨_, rfl⟩
  have hjm : j < m := by rw [← hm]; exact (List.getElem?_eq_some_iff.1 hj).1
  have hmm : (m : Int) ≤ 4096 := by have h1 := hR.few; have h2 := hR.m2; omega
  have hji : (0 : Int) ≤ (j : Int) := by omega
  have hji2 : (j : Int) < (m : Int) := by omega
  have hj0 : decide ((j : Int) < 0) = false := by simp
  have HM := Lib.hid hm; have HJ := Lib.hid hj; have HONE := Lib.hid hR.one; have HR := Lib.hid hR; have HT := Lib.hid hT
  have c1 := hR.at1
  rw [hm] at c1
  have k0 := (hcell 4 _ rfl).1; have k1 := (hcell 5 _ rfl).1
  have q1 : Row2 w1 (bi + 2) b0 := row_keep KQ.out hT.keep (HNI.out _ (by omega))
  have j1 : Row2 w1 (bi + 1) ⟨br, bn⟩ := row_keep KB.out hT.keep (HNI.out _ (by omega))
  have Q1 := Lib.hid q1; have J1 := Lib.hid j1
  obtain ⟨y0, y1, _, _⟩ := j1.all
  have x0 := cell_regrown c1; have x1 := cell_regrown k0; have x2 := cell_regrown k1; have x3 := cell_regrown y0; have x4 := cell_regrown y1
  simp only at x1 x2 x3 x4
  clear hS' hm hj hR hT hcell c1 k0 k1 q1 j1 y0 y1 HC d0 d1 d2 d3 KI KB KQ
  go_wp2_with fail
  refine wp_region_quiet_below (by kernel_rfl) (by kernel_rfl) ?_
  repeat (go_big_quiet_step (exact HL.out.re _ _ _))
  refine wpQuiet_nil ?_
  intro _ hw'
  obtain ⟨⟨dq, osq⟩, hw''⟩ := hw'
  subst hw''
  have lk := below_regrown w1 dq osq
  have HR2 := Lib.hid (HR.out.below lk)
  have Q2 := Lib.hid (Q1.out.below lk); have J2 := Lib.hid (J1.out.below lk)
  have HT2 := Lib.hid ((Turned.first (by rw [hbi]; exact HB.out) HT.out).cut (Keep.of_below lk []) (by simp))
  have HSZ := Lib.hid (Nat.le_trans HT.out.keep.size lk.size)
  clear lk x0 x1 x2 x3 x4 HR HT Q1 J1 HL
  generalize grow (redrawn w1 dq) osq = w2 at *
  obtain ⟨g', e', hg2, hgB2, hcell⟩ := HR2.out.ent HJ.out
  cases e'
  have c1 := HR2.out.at1
  rw [HM.out] at c1
  have k0 := (hcell 4 _ rfl).1; have k1 := (hcell 5 _ rfl).1
  obtain ⟨g0, g1, h0, h1⟩ := Q2.out.all
  have qn := QN.out
  have ne1 : g ≠ bi + 2 := fun e => qn g (by simp [blk]) ⟨by omega, by have := HZ.out; omega⟩
  have ne2 : hb ≠ bi + 2 := fun e => qn hb (by simp [blk]) ⟨by omega, by have := HZ.out; omega⟩
  simp only at g0 g1 h0 h1 k0 k1
  clear hcell Q2 J2 qn
  go_wp2_with fail
  have kk := lay2_keep w2 (bi + 2) ⟨pr, pn⟩
  refine bodyPost_ret (v := .tuple #[.agg #[.int .u32 pr, .int .u8 pn], .bool false, .int .i64 0]) (res_c1t2 Try.results19 rfl ?_ rfl rfl) rfl ⟨rfl, _, ⟨some ⟨g, 0, none⟩, cap', rfl, ?_⟩, HT2.out.cut kk (by rw [hbi]; simp)⟩
  · go_simp
  · rw [← HS'.out]
    exact HR2.out.keep kk (fun q hq hm => QN.out q hq (by have := HZ.out; simp at hm; omega))
set_option maxRecDepth 100000 in
set_option maxHeartbeats 8000000 in
theorem raccept_yes (i : In) (b : Bl) (v : ByteArray) (w : World) (hB : B ≤ w.heap.size) (h : Rf w B hb Bs S most) {r : Rw} (hs : stt (look S i) S.length most = some r) (hlow : low b r.p = false) :
    Calls Try.prog 19 #[.pointer (some ⟨hb, 0, none⟩), i.ag, b.ag, .string v] w fun e w' => e = .returned (.tuple #[b.ag, .bool true, .int .i64 0]) ∧ ∃ (j : Nat) (S' : List En) (Bs' : List Nat), S'[j]? = some ⟨i, r⟩ ∧ S' = rowS S i ∧ One S' ∧ Rf w' B hb Bs' (S'.set j ⟨i, ⟨b, ⟨true, b, v⟩⟩⟩) most ∧ Turned Bs Bs' w w' := by
  obtain ⟨W, hW⟩ : ∃ W, W = ((w.alloc i.obj).alloc b.obj).alloc b0.obj := ⟨_, rfl⟩
  have bW : Below w.heap.size w W := by rw [hW]; exact below_alloc (below_alloc (below_alloc (Below.refl _ _) _) _) _
  have hz : W.heap.size = w.heap.size + 3 := by rw [hW]; simp
  have ki : Row4 W w.heap.size i := by
    have := ((Row4.new w i).below (below_alloc (Below.refl _ _) b.obj)).below (below_alloc (Below.refl _ _) b0.obj)
    rw [← hW] at this; exact this
  have kb : Row2 W (w.heap.size + 1) b := by
    have := (Row2.new (w.alloc i.obj) b).below (below_alloc (Below.refl _ _) b0.obj)
    rw [← hW, show (w.alloc i.obj).heap.size = w.heap.size + 1 by simp] at this; exact this
  have kq : Row2 W (w.heap.size + 2) b0 := by
    have := Row2.new ((w.alloc i.obj).alloc b.obj) b0
    rw [← hW, show ((w.alloc i.obj).alloc b.obj).heap.size = w.heap.size + 2 by simp] at this; exact this
  have HC := Lib.hid (rrow_ok i W (by omega) (h.below bW) hs)
  have HL := Lib.hid (show Ret _ _ _ from fun w => by have := rless_any b r.p w; rw [hlow] at this; exact this)
  have HNI := Lib.hid (fun q (hq : w.heap.size ≤ q) => h.nin hq)
  clear hlow
  obtain ⟨d0, d1, d2, d3⟩ := ki.all
  have HB := Lib.hid bW
  have KI := Lib.hid ki; have KB := Lib.hid kb; have KQ := Lib.hid kq
  have HZ := Lib.hid hz
  clear ki kb kq bW h hB hs
  obtain ⟨⟨pr, pn⟩, ⟨is, ⟨ar, an⟩, av⟩⟩ := r
  obtain ⟨tx, ib, ir, ix⟩ := i
  obtain ⟨br, bn⟩ := b
  simp only [In.ag, In.obj, Bl.ag, Bl.obj] at hW HC HL ⊢
  go_enter Try.func19, Try.ntmps19
  go_upto_region 1 with (fail)
  rw [← hW]
  clear hW hz
  generalize hbi : w.heap.size = bi at *
  go_wp2_with fail
  refine HC.out.mono ?_; rintro e w1 ⟨j, S', ao', cap', rfl, hj, hS', hR, hT⟩
  obtain ⟨g, rfl, hg, hgB, hcell⟩ := hR.ent hj
  have QN := Lib.hid (fun q (hq : q ∈ hb :: blk (some ⟨g, 0, none⟩)) => show ¬ (bi ≤ q ∧ q < W.heap.size) from fun hm => by
    rcases hT.new q hq with h4 | h4
    · exact HNI.out q hm.1 h4
    · omega)
  have HS' := Lib.hid hS'
  obtain ⟨m, hm⟩ : ∃ m, S'.length = m := ⟨_, rfl⟩
  have hjm : j < m := by rw [← hm]; exact (List.getElem?_eq_some_iff.1 hj).1
  have hmm : (m : Int) ≤ 4096 := by have h1 := hR.few; have h2 := hR.m2; omega
  have hji : (0 : Int) ≤ (j : Int) := by omega
  have hji2 : (j : Int) < (m : Int) := by omega
  have hj0 : decide ((j : Int) < 0) = false := by simp
  have HM := Lib.hid hm; have HJ := Lib.hid hj; have HONE := Lib.hid hR.one; have HR := Lib.hid hR; have HT := Lib.hid hT
  have c1 := hR.at1
  rw [hm] at c1
  have k0 := (hcell 4 _ rfl).1; have k1 := (hcell 5 _ rfl).1
  have q1 : Row2 w1 (bi + 2) b0 := row_keep KQ.out hT.keep (HNI.out _ (by omega))
  have j1 : Row2 w1 (bi + 1) ⟨br, bn⟩ := row_keep KB.out hT.keep (HNI.out _ (by omega))
  have Q1 := Lib.hid q1; have J1 := Lib.hid j1
  obtain ⟨y0, y1, _, _⟩ := j1.all
  have x0 := cell_regrown c1; have x1 := cell_regrown k0; have x2 := cell_regrown k1; have x3 := cell_regrown y0; have x4 := cell_regrown y1
  simp only at x1 x2 x3 x4
  clear hS' hm hj hR hT hcell c1 k0 k1 q1 j1 y0 y1 HC d0 d1 d2 d3 KI KB KQ
  go_wp2_with fail
  refine wp_region_quiet_below (by kernel_rfl) (by kernel_rfl) ?_
  repeat (go_big_quiet_step (exact HL.out.re _ _ _))
  refine wpQuiet_nil ?_
  intro _ hw'
  obtain ⟨⟨dq, osq⟩, hw''⟩ := hw'
  subst hw''
  have lk := below_regrown w1 dq osq
  have HR2 := Lib.hid (HR.out.below lk)
  have Q2 := Lib.hid (Q1.out.below lk); have J2 := Lib.hid (J1.out.below lk)
  have HT2 := Lib.hid ((Turned.first (by rw [hbi]; exact HB.out) HT.out).cut (Keep.of_below lk []) (by simp))
  have HSZ := Lib.hid (Nat.le_trans HT.out.keep.size lk.size)
  clear lk x0 x1 x2 x3 x4 HR HT Q1 J1 HL
  generalize grow (redrawn w1 dq) osq = w2 at *
  obtain ⟨g', e', hg2, hgB2, hcell⟩ := HR2.out.ent HJ.out
  cases e'
  have c1 := HR2.out.at1
  rw [HM.out] at c1
  have qn := QN.out
  have ne0 : g ≠ bi + 1 := fun e => qn g (by simp [blk]) ⟨by omega, by have := HZ.out; omega⟩
  have ne1 : g ≠ bi + 2 := fun e => qn g (by simp [blk]) ⟨by omega, by have := HZ.out; omega⟩
  have ne2 : hb ≠ bi + 2 := fun e => qn hb (by simp [blk]) ⟨by omega, by have := HZ.out; omega⟩
  have NE := Lib.hid (And.intro ne0 (And.intro ne1 ne2))
  obtain ⟨y0, y1, _, _⟩ := J2.out.all
  simp only at y0 y1
  have z0 := (hcell 4 _ rfl).1; have z1 := (hcell 5 _ rfl).1
  have zf := fun i => HR2.out.fr i
  have x0 := cell_regrown c1; have x3 := cell_regrown y0; have x4 := cell_regrown y1
  have HC2 := Lib.hid hcell
  clear hcell c1 y0 y1 z0 z1 zf qn
  go_wp2_with fail
  refine region_tail 8 (by kernel_rfl) (by kernel_rfl) ?_
  simp only [List.take_succ_cons, List.take_zero, List.drop_succ_cons, List.drop_zero]
  repeat (go_big_quiet_step (fail))
  refine wpQuiet_nil ?_
  intro _ hw'
  obtain ⟨⟨dq, osq⟩, hw''⟩ := hw'
  subst hw''
  have lk := below_regrown w2 dq osq
  have hR3 := HR2.out.below lk
  obtain ⟨g'', e'', hg3, hgB3, hcell⟩ := hR3.ent HJ.out
  cases e''
  have z0 := hcell 4 _ rfl; have z1 := hcell 5 _ rfl
  obtain ⟨z0, zf0⟩ := z0
  obtain ⟨z1, zf1⟩ := z1
  simp only at z0 z1
  have hP := hR3.setP HJ.out ⟨br, bn⟩
  have HP := Lib.hid hP
  have T3 := Lib.hid (HT2.out.cut (Keep.of_below lk []) (by simp))
  have q3 := Q2.out.below lk; have j3 := J2.out.below lk
  clear lk x0 x3 x4 hcell hR3 hP HC2
  generalize grow (redrawn w2 dq) osq = w3 at *
  go_wp2_with fail
  have q4 : Row2 _ (bi + 2) b0 := row_keep q3 HP.out.2 (by simp; omega)
  have j4 : Row2 _ (bi + 1) ⟨br, bn⟩ := row_keep j3 HP.out.2 (by simp; omega)
  have T4 := Lib.hid (T3.out.more HP.out.2 (by simp [blk]))
  have S4 := Lib.hid HP.out.1
  clear HP T3 q3 j3 z0 z1 zf0 zf1 Q2 J2 HR2 HT2
  generalize (w3.setCell ⟨g, j * 10 + 4, none⟩ (.int .u32 br)).setCell ⟨g, j * 10 + 5, none⟩ (.int .u8 bn) = w4 at *
  have hj4 : (S'.set j ⟨⟨tx, ib, ir, ix⟩, ⟨⟨br, bn⟩, ⟨is, ⟨ar, an⟩, av⟩⟩⟩)[j]? = some ⟨⟨tx, ib, ir, ix⟩, ⟨⟨br, bn⟩, ⟨is, ⟨ar, an⟩, av⟩⟩⟩ := List.getElem?_set_self (by rw [HM.out]; exact hjm)
  have HJ4 := Lib.hid hj4
  have c4 := S4.out.at1
  rw [List.length_set, HM.out] at c4
  have x0 := cell_regrown c4
  obtain ⟨y0, y1, _, _⟩ := j4.all
  simp only at y0 y1
  have x3 := cell_regrown y0; have x4 := cell_regrown y1
  have Q4 := Lib.hid q4; have J4 := Lib.hid j4
  clear hj4 c4 y0 y1 q4 j4
  go_wp2_with fail
  refine region_tail 10 (by kernel_rfl) (by kernel_rfl) ?_
  simp only [List.take_succ_cons, List.take_zero, List.drop_succ_cons, List.drop_zero]
  repeat (go_big_quiet_step (fail))
  refine wpQuiet_nil ?_
  intro _ hw'
  obtain ⟨⟨dq2, osq2⟩, hw''⟩ := hw'
  subst hw''
  have lk := below_regrown w4 dq2 osq2
  have hR5 := S4.out.below lk
  obtain ⟨g5, e5, _, _, hcell⟩ := hR5.ent HJ4.out
  cases e5
  obtain ⟨z6, zf6⟩ := hcell 6 _ rfl; obtain ⟨z7, zf7⟩ := hcell 7 _ rfl; obtain ⟨z8, zf8⟩ := hcell 8 _ rfl; obtain ⟨z9, zf9⟩ := hcell 9 _ rfl
  simp only at z6 z7 z8 z9
  have hP := hR5.setA HJ4.out ⟨true, ⟨br, bn⟩, v⟩
  rw [List.set_set] at hP
  have HP := Lib.hid hP
  have T5 := Lib.hid (T4.out.cut (Keep.of_below lk []) (by simp))
  have q5 := Row2.below Q4.out lk; have j5 := Row2.below J4.out lk
  clear lk x0 x3 x4 hcell hR5 hP
  generalize grow (redrawn w4 dq2) osq2 = w5 at *
  go_upto_region 9 with (fail)
  have q6 : Row2 _ (bi + 2) b0 := row_keep q5 HP.out.2 (by have := NE.out.2.1; simp; omega)
  have j6 : Row2 _ (bi + 1) ⟨br, bn⟩ := row_keep j5 HP.out.2 (by have := NE.out.1; simp; omega)
  have T6 := Lib.hid (T5.out.more HP.out.2 (by simp [blk]))
  have S6 := Lib.hid HP.out.1
  simp only at T6 S6
  clear HP T5 q5 j5 z6 z7 z8 z9 zf6 zf7 zf8 zf9
  generalize (((w5.setCell ⟨g, j * 10 + 6, none⟩ (.bool true)).setCell ⟨g, j * 10 + 7, none⟩ (.int .u32 br)).setCell ⟨g, j * 10 + 8, none⟩ (.int .u8 bn)).setCell ⟨g, j * 10 + 9, none⟩ (.string v) = w6 at *
  obtain ⟨g0, g1, h0, h1⟩ := q6.all
  obtain ⟨y0, y1, _, _⟩ := j6.all
  simp only at g0 g1 h0 h1 y0 y1
  have kk := lay2_keep w6 (bi + 2) ⟨br, bn⟩
  have KK := Lib.hid kk
  clear kk
  go_wp2_with fail
  have kk := KK.out
  refine bodyPost_ret (v := .tuple #[.agg #[.int .u32 br, .int .u8 bn], .bool true, .int .i64 0]) (res_c1t2 Try.results19 rfl ?_ rfl rfl) rfl ⟨rfl, j, S', _, HJ.out, HS'.out, HONE.out, ⟨some ⟨g, 0, none⟩, cap', rfl, ?_⟩, T6.out.cut kk (by rw [hbi]; simp)⟩
  · go_simp
  · exact S6.out.keep kk (fun q hq hm => QN.out q hq (by have := HZ.out; simp at hm; omega))
end
end Go.Proofs.Ytgknmicblnldiaa
