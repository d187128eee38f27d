/- AcceptorPlays' step. -/
import Derived.Test.YtgknmicblnldiaaTw
import Derived.Deep.RegionHeld3
namespace Go.Proofs.Ytgknmicblnldiaa
open Go.RowKit Go.Sort
set_option linter.unusedVariables false

section
variable {W0 w w' : World} {hA gA most n n' hb : Nat} {f f' : Fn} {Bs Bs' : List Nat} {S S' : List En}
set_option maxRecDepth 100000 in
set_option maxHeartbeats 16000000 in
theorem step_1 (q : Opn) (hq : q.Ok) (hk : q.kind = 1) (w : World) (h : Tw W0 w hA gA most hb S) :
    Calls Try.prog 10 #[.pointer (some ⟨hA, 0, none⟩), .pointer (some ⟨hb, 0, none⟩), q.ag] w fun e w' => e = .returned (.bool true) ∧ ∃ S', Tw W0 w' hA gA most hb S' := by
  obtain ⟨Bs, h⟩ := h
  have bq := below_alloc (Below.refl w.heap.size w) q.obj
  have oq := RowO.new w q
  have T0 := Lib.hid (h.below bq)
  have HBO := Lib.hid (show ∀ x ∈ Bs, x < w.heap.size from fun x hx => (h.rf.blocks x hx).2)
  have HGA := Lib.hid (show gA < w.heap.size ∧ hA < w.heap.size from ⟨h.ta.map.lt, h.ta.hlt⟩)
  have E1 := eql_bb
  have E2 := eql_aa
  have HK := Lib.hid hk
  clear hk
  simp only [Opn.obj] at bq oq T0
  simp only [Opn.ag]
  clear h bq
  go_enter Try.func10, Try.ntmps10
  go_upto_region 1 with (fail)
  generalize hbo : w.heap.size = bo at *
  generalize w.alloc (.cells #[.int .i64 q.kind, .int .u64 q.i.tx, .int .i64 q.i.b, .int .i64 q.i.r, .int .u32 q.i.x, .int .u32 q.b.round, .int .u8 q.b.node, .string q.v] 40) = w0 at *
  obtain ⟨q0, q1, q2, q3, q4, q5, q6, q7⟩ := oq.all
  have OQ := Lib.hid oq
  have hk := HK.out
  clear oq
  have hA1 := prepare_any q.i hq.i q.b w0 T0.out.ta
  have hC1 := fun (w : World) (T : TwM W0 w hA gA most (putN (look S) S.length q.i (prO (stt (look S q.i) S.length most) q.b)) (put (look S) q.i (prO (stt (look S q.i) S.length most) q.b)) hb Bs S) => rprepare_any q.i q.b hq.b1 hq.b2 w T.le T.rf
  generalize (prR (stt (look S q.i) S.length most) q.b) = R at *
  generalize (prO (stt (look S q.i) S.length most) q.b) = O at *
  generalize hN : putN (look S) S.length q.i O = N at *
  generalize hP : put (look S) q.i O = P at *
  obtain ⟨ra, rp, rok, re⟩ := R
  simp only at hA1 hC1
  have HA := Lib.hid hA1; have HC := Lib.hid hC1
  clear hA1 hC1 hN hP
  go_wp2_with fail
  refine HA.out.mono ?_; rintro e w2 ⟨rfl, t2, k2⟩
  have T2 := T0.out.turnA t2 k2
  have o2 : RowO w2 bo q := row_keep OQ.out k2 (by have := HGA.out.1; simp; omega)
  have b3 := below_alloc (below_alloc (Below.refl w2.heap.size w2) (Ac.obj ra)) (Bl.obj rp)
  have x3 := RowA.below (RowA.new w2 ra) (below_alloc (Below.refl _ _) (Bl.obj rp))
  have y3 := Row2.new (w2.alloc (Ac.obj ra)) rp
  rw [show (w2.alloc (Ac.obj ra)).heap.size = w2.heap.size + 1 by simp] at y3
  have T3 := T2.below b3
  have o3 := RowO.below o2 b3
  have hbl3 := HBO.out
  simp only [Ac.obj, Bl.obj] at T3 o3 x3 y3
  have HB2 := Lib.hid (show bo < w2.heap.size from o2.lt)
  clear b3 t2 k2 T2 o2 HA OQ T0 q0 q1 q2 q3 q4 q5 q6 q7 hbl3
  go_upto_region 4 with (fail)
  generalize hb2 : w2.heap.size = b2 at *
  generalize (w2.alloc (.cells #[.bool ra.is, .int .u32 ra.b.round, .int .u8 ra.b.node, .string ra.v] 45)).alloc (.cells #[.int .u32 rp.round, .int .u8 rp.node] 38) = w3 at *
  obtain ⟨q0, q1, q2, q3, q4, q5, q6, q7⟩ := o3.all
  have T3' := Lib.hid T3; have Y3 := Lib.hid y3
  have X3 := Lib.hid x3
  clear T3 o3 x3 y3
  go_wp2_with fail
  refine (HC.out _ T3'.out).mono ?_; rintro e w4 ⟨rfl, S2, Bs2, hR, hT, hlen, hlook⟩
  have T4 := T3'.out.turnC hR hT
  have y4 : Row2 w4 (b2 + 1) rp := row_keep Y3.out hT.keep (fun hm => by have := HBO.out _ hm; have := HB2.out; omega)
  have x4 : RowA w4 b2 ra := row_keep X3.out hT.keep (fun hm => by have := HBO.out _ hm; have := HB2.out; omega)
  rw [← hlen, ← hlook] at T4
  have b5 := below_alloc (below_alloc (Below.refl w4.heap.size w4) (Ac.obj ra)) (Bl.obj rp)
  have u5 := RowA.below (RowA.new w4 ra) (below_alloc (Below.refl _ _) (Bl.obj rp))
  have v5 := Row2.new (w4.alloc (Ac.obj ra)) rp
  rw [show (w4.alloc (Ac.obj ra)).heap.size = w4.heap.size + 1 by simp] at v5
  have T5 := T4.below b5
  have y5 := Row2.below y4 b5
  have x5 := RowA.below x4 b5
  simp only [Ac.obj, Bl.obj] at T5 y5 v5 x5 u5
  have HT5 := Lib.hid T5
  clear T5 b5 T4 y4 x4 X3 hR hT hlen hlook HC T3' Y3 q0 q1 q2 q3 q4 q5 q6 q7
  go_upto_region 5 with (fail)
  generalize hb4 : w4.heap.size = b4 at *
  generalize (w4.alloc (.cells #[.bool ra.is, .int .u32 ra.b.round, .int .u8 ra.b.node, .string ra.v] 45)).alloc (.cells #[.int .u32 rp.round, .int .u8 rp.node] 38) = w5 at *
  obtain ⟨y0, y1, _, _⟩ := Row2.all y5
  obtain ⟨v0, v1, _, _⟩ := Row2.all v5
  obtain ⟨x0, x1, x2, x3, _⟩ := RowA.all x5
  obtain ⟨u0', u1', u2', u3', _⟩ := RowA.all u5
  clear y5 v5 x5 u5
  go_wp2_with fail
  go_ret
  exact ⟨rfl, S2, Bs2, HT5.out⟩
set_option maxRecDepth 100000 in
set_option maxHeartbeats 16000000 in
theorem step_2 (q : Opn) (hq : q.Ok) (hk : q.kind = 2) (w : World) (h : Tw W0 w hA gA most hb S) :
    Calls Try.prog 10 #[.pointer (some ⟨hA, 0, none⟩), .pointer (some ⟨hb, 0, none⟩), q.ag] w fun e w' => e = .returned (.bool true) ∧ ∃ S', Tw W0 w' hA gA most hb S' := by
  obtain ⟨Bs, h⟩ := h
  have bq := below_alloc (Below.refl w.heap.size w) q.obj
  have oq := RowO.new w q
  have T0 := Lib.hid (h.below bq)
  have HBO := Lib.hid (show ∀ x ∈ Bs, x < w.heap.size from fun x hx => (h.rf.blocks x hx).2)
  have HGA := Lib.hid (show gA < w.heap.size ∧ hA < w.heap.size from ⟨h.ta.map.lt, h.ta.hlt⟩)
  have E1 := eql_bb
  have E2 := eql_aa
  have HK := Lib.hid hk
  clear hk
  simp only [Opn.obj] at bq oq T0
  simp only [Opn.ag]
  clear h bq
  go_enter Try.func10, Try.ntmps10
  go_upto_region 1 with (fail)
  generalize hbo : w.heap.size = bo at *
  generalize w.alloc (.cells #[.int .i64 q.kind, .int .u64 q.i.tx, .int .i64 q.i.b, .int .i64 q.i.r, .int .u32 q.i.x, .int .u32 q.b.round, .int .u8 q.b.node, .string q.v] 40) = w0 at *
  obtain ⟨q0, q1, q2, q3, q4, q5, q6, q7⟩ := oq.all
  have OQ := Lib.hid oq
  have hk := HK.out
  clear oq
  have hA1 := accept_any q.i hq.i q.b q.v hq.v w0 T0.out.ta
  have hC1 := fun (w : World) (T : TwM W0 w hA gA most (putN (look S) S.length q.i (acO (stt (look S q.i) S.length most) q.b q.v)) (put (look S) q.i (acO (stt (look S q.i) S.length most) q.b q.v)) hb Bs S) => raccept_any q.i q.b q.v hq.b1 hq.b2 w T.le T.rf
  generalize (acR (stt (look S q.i) S.length most) q.b) = R at *
  generalize (acO (stt (look S q.i) S.length most) q.b q.v) = O at *
  generalize hN : putN (look S) S.length q.i O = N at *
  generalize hP : put (look S) q.i O = P at *
  obtain ⟨ra, rp, rok, re⟩ := R
  simp only at hA1 hC1
  have HA := Lib.hid hA1; have HC := Lib.hid hC1
  clear hA1 hC1 hN hP
  go_wp2_with fail
  refine HA.out.mono ?_; rintro e w2 ⟨rfl, t2, k2⟩
  have T2 := T0.out.turnA t2 k2
  have o2 : RowO w2 bo q := row_keep OQ.out k2 (by have := HGA.out.1; simp; omega)
  have b3 := below_alloc (Below.refl w2.heap.size w2) (Bl.obj rp)
  have y3 := Row2.new w2 rp
  have T3 := T2.below b3
  have o3 := RowO.below o2 b3
  have hbl3 := HBO.out
  simp only [Bl.obj] at T3 o3 y3
  have HB2 := Lib.hid (show bo < w2.heap.size from o2.lt)
  clear b3 t2 k2 T2 o2 HA OQ T0 q0 q1 q2 q3 q4 q5 q6 q7 hbl3
  go_upto_region 8 with (fail)
  generalize hb2 : w2.heap.size = b2 at *
  generalize w2.alloc (.cells #[.int .u32 rp.round, .int .u8 rp.node] 38) = w3 at *
  obtain ⟨q0, q1, q2, q3, q4, q5, q6, q7⟩ := o3.all
  have T3' := Lib.hid T3; have Y3 := Lib.hid y3
  clear T3 o3 y3
  go_wp2_with fail
  refine (HC.out _ T3'.out).mono ?_; rintro e w4 ⟨rfl, S2, Bs2, hR, hT, hlen, hlook⟩
  have T4 := T3'.out.turnC hR hT
  have y4 : Row2 w4 b2 rp := row_keep Y3.out hT.keep (fun hm => by have := HBO.out _ hm; have := HB2.out; omega)
  rw [← hlen, ← hlook] at T4
  have b5 := below_alloc (Below.refl w4.heap.size w4) (Bl.obj rp)
  have v5 := Row2.new w4 rp
  have T5 := T4.below b5
  have y5 := Row2.below y4 b5
  simp only [Bl.obj] at T5 y5 v5
  have HT5 := Lib.hid T5
  clear T5 b5 T4 y4 hR hT hlen hlook HC T3' Y3 q0 q1 q2 q3 q4 q5 q6 q7
  go_upto_region 9 with (fail)
  generalize hb4 : w4.heap.size = b4 at *
  generalize w4.alloc (.cells #[.int .u32 rp.round, .int .u8 rp.node] 38) = w5 at *
  obtain ⟨y0, y1, _, _⟩ := Row2.all y5
  obtain ⟨v0, v1, _, _⟩ := Row2.all v5
  clear y5 v5
  go_wp2_with fail
  go_ret
  exact ⟨rfl, S2, Bs2, HT5.out⟩
set_option maxRecDepth 100000 in
set_option maxHeartbeats 16000000 in
theorem step_3 (q : Opn) (hq : q.Ok) (hk : q.kind = 3) (w : World) (h : Tw W0 w hA gA most hb S) :
    Calls Try.prog 10 #[.pointer (some ⟨hA, 0, none⟩), .pointer (some ⟨hb, 0, none⟩), q.ag] w fun e w' => e = .returned (.bool true) ∧ ∃ S', Tw W0 w' hA gA most hb S' := by
  obtain ⟨Bs, h⟩ := h
  have bq := below_alloc (Below.refl w.heap.size w) q.obj
  have oq := RowO.new w q
  have T0 := Lib.hid (h.below bq)
  have HBO := Lib.hid (show ∀ x ∈ Bs, x < w.heap.size from fun x hx => (h.rf.blocks x hx).2)
  have HGA := Lib.hid (show gA < w.heap.size ∧ hA < w.heap.size from ⟨h.ta.map.lt, h.ta.hlt⟩)
  have E1 := eql_bb
  have E2 := eql_aa
  have HK := Lib.hid hk
  clear hk
  simp only [Opn.obj] at bq oq T0
  simp only [Opn.ag]
  clear h bq
  go_enter Try.func10, Try.ntmps10
  go_upto_region 1 with (fail)
  generalize hbo : w.heap.size = bo at *
  generalize w.alloc (.cells #[.int .i64 q.kind, .int .u64 q.i.tx, .int .i64 q.i.b, .int .i64 q.i.r, .int .u32 q.i.x, .int .u32 q.b.round, .int .u8 q.b.node, .string q.v] 40) = w0 at *
  obtain ⟨q0, q1, q2, q3, q4, q5, q6, q7⟩ := oq.all
  have OQ := Lib.hid oq
  have hk := HK.out
  clear oq
  have hG := get_any q.i hq.i w0 T0.out.ta
  have hF : ∀ w, TwM W0 w hA gA most S.length (look S) hb Bs S → Calls Try.prog 20 #[.pointer (some ⟨hb, 0, none⟩), q.i.ag] w fun e w' => ∃ x, e = .returned (.int .i64 x) ∧ Stands S q.i x ∧ Below w.heap.size w w' := fun w T => by
    obtain ⟨ao, cap, _, hR⟩ := T.rf
    exact rfind_any q.i w hR
  obtain ⟨R, hR⟩ : ∃ R, (look S q.i).getD r0 = R := ⟨_, rfl⟩
  obtain ⟨x, hx⟩ : ∃ x, fE (look S q.i) = x := ⟨_, rfl⟩
  rw [hR, hx] at hG
  have HA := Lib.hid hG; have HC := Lib.hid hF; have HR := Lib.hid hR; have HX := Lib.hid hx
  clear hG hF hR hx
  obtain ⟨rp, ra⟩ := R
  go_wp2_with fail
  refine HA.out.mono ?_; rintro e w2 ⟨rfl, b2⟩
  have T2 := T0.out.below b2
  have o2 := RowO.below OQ.out b2
  have b3 := below_alloc (below_alloc (Below.refl w2.heap.size w2) (Bl.obj rp)) (Ac.obj ra)
  have x3 := Row2.below (Row2.new w2 rp) (below_alloc (Below.refl _ _) (Ac.obj ra))
  have y3 := RowA.new (w2.alloc (Bl.obj rp)) ra
  rw [show (w2.alloc (Bl.obj rp)).heap.size = w2.heap.size + 1 by simp] at y3
  have T3 := T2.below b3
  have o3 := RowO.below o2 b3
  simp only [Ac.obj, Bl.obj] at T3 o3 x3 y3
  clear b3 b2 T2 o2 HA OQ T0 q0 q1 q2 q3 q4 q5 q6 q7
  go_upto_region 12 with (fail)
  generalize hb2 : w2.heap.size = b2 at *
  generalize (w2.alloc (.cells #[.int .u32 rp.round, .int .u8 rp.node] 38)).alloc (.cells #[.bool ra.is, .int .u32 ra.b.round, .int .u8 ra.b.node, .string ra.v] 45) = w3 at *
  obtain ⟨q0, q1, q2, q3, q4, q5, q6, q7⟩ := o3.all
  have T3' := Lib.hid T3; have Y3 := Lib.hid y3; have X3 := Lib.hid x3
  clear T3 o3 x3 y3
  go_wp2_with fail
  refine (HC.out _ T3'.out).mono ?_; rintro e w4 ⟨k, rfl, hst, b4⟩
  have T4 := T3'.out.below b4
  obtain ⟨y0, y1, y2, y3, _⟩ := RowA.all (RowA.below Y3.out b4)
  obtain ⟨x0, x1, _, _⟩ := Row2.all (Row2.below X3.out b4)
  have HT4 := Lib.hid T4
  clear b4 HC T3' q0 q1 q2 q3 q4 q5 q6 q7 X3 Y3
  rcases hst with ⟨rfl, hl⟩ | ⟨j, e, rfl, hj, hei, hl⟩
  · have hr := HR.out; have hx := HX.out
    rw [hl] at hr hx
    obtain ⟨rfl, rfl⟩ : rp = b0 ∧ ra = a0 := by cases hr; exact ⟨rfl, rfl⟩
    obtain rfl : x = 102 := hx.symm
    simp only at x0 x1 y0 y1 y2 y3
    clear hl hr hx HR HX T4
    go_wp2_with fail
    go_ret
    exact ⟨rfl, S, Bs, HT4.out⟩
  · have hr := HR.out; have hx := HX.out
    rw [hl] at hr hx
    have hr' : e.r = ⟨rp, ra⟩ := hr
    obtain ⟨rfl, rfl⟩ : rp = e.r.p ∧ ra = e.r.a := by rw [hr']; exact ⟨rfl, rfl⟩
    obtain rfl : x = 0 := hx.symm
    obtain ⟨ao, cap, _, hR⟩ := T4.rf
    obtain ⟨g, rfl, hg, hgB, hcell⟩ := hR.ent hj
    have c1 := hR.at1
    obtain ⟨m, hm⟩ : ∃ m, S.length = m := ⟨_, rfl⟩
    rw [hm] at c1
    have hjm : j < m := by rw [← hm]; exact (List.getElem?_eq_some_iff.1 hj).1
    have hmm : (m : Int) ≤ 4096 := by have h1 := hR.few; have h2 := hR.m2; omega
    have hji : (0 : Int) ≤ (j : Int) := by omega
    have hji2 : (j : Int) < (m : Int) := by omega
    have hj0 : decide ((j : Int) < 0) = false := by simp
    have z0 := cell_regrown x0; have z1 := cell_regrown x1; have z2 := cell_regrown y0; have z3 := cell_regrown y1; have z4 := cell_regrown y2; have z5 := cell_regrown y3
    have z6 := cell_regrown c1
    have z7 := cell_regrown (hcell 4 _ rfl).1; have z8 := cell_regrown (hcell 5 _ rfl).1; have z9 := cell_regrown (hcell 6 _ rfl).1; have z10 := cell_regrown (hcell 7 _ rfl).1; have z11 := cell_regrown (hcell 8 _ rfl).1; have z12 := cell_regrown (hcell 9 _ rfl).1
    have E3 := eql_bb e.r.p.round e.r.p.node
    have E4 := eql_aa e.r.a.is e.r.a.b.round e.r.a.b.node e.r.a.v
    clear hl hr hr' hx HR HX T4 hcell c1 hR hj hei hm x0 x1 y0 y1 y2 y3
    go_wp2_with fail
    refine wp_region_quiet_below (by kernel_rfl) (by kernel_rfl) ?_
    repeat (go_big_quiet_step (fail))
    refine wpQuiet_nil ?_
    intro _ hw'
    obtain ⟨⟨dq, osq⟩, hw''⟩ := hw'
    subst hw''
    have HT5 := Lib.hid (HT4.out.below (below_regrown w4 dq osq))
    clear z0 z1 z2 z3 z4 z5 z6 z7 z8 z9 z10 z11 z12 HT4
    generalize grow (redrawn w4 dq) osq = w5 at *
    go_wp2_with fail
    go_ret
    exact ⟨rfl, S, Bs, HT5.out⟩
set_option maxRecDepth 100000 in
set_option maxHeartbeats 16000000 in
theorem step_4 (q : Opn) (hq : q.Ok) (hk : q.kind = 4) (w : World) (h : Tw W0 w hA gA most hb S) :
    Calls Try.prog 10 #[.pointer (some ⟨hA, 0, none⟩), .pointer (some ⟨hb, 0, none⟩), q.ag] w fun e w' => e = .returned (.bool true) ∧ ∃ S', Tw W0 w' hA gA most hb S' := by
  obtain ⟨Bs, h⟩ := h
  have bq := below_alloc (Below.refl w.heap.size w) q.obj
  have oq := RowO.new w q
  have T0 := Lib.hid (h.below bq)
  have HBO := Lib.hid (show ∀ x ∈ Bs, x < w.heap.size from fun x hx => (h.rf.blocks x hx).2)
  have HGA := Lib.hid (show gA < w.heap.size ∧ hA < w.heap.size from ⟨h.ta.map.lt, h.ta.hlt⟩)
  have E1 := eql_bb
  have E2 := eql_aa
  have HK := Lib.hid hk
  clear hk
  simp only [Opn.obj] at bq oq T0
  simp only [Opn.ag]
  clear h bq
  go_enter Try.func10, Try.ntmps10
  go_upto_region 1 with (fail)
  generalize hbo : w.heap.size = bo at *
  generalize w.alloc (.cells #[.int .i64 q.kind, .int .u64 q.i.tx, .int .i64 q.i.b, .int .i64 q.i.r, .int .u32 q.i.x, .int .u32 q.b.round, .int .u8 q.b.node, .string q.v] 40) = w0 at *
  obtain ⟨q0, q1, q2, q3, q4, q5, q6, q7⟩ := oq.all
  have OQ := Lib.hid oq
  have hk := HK.out
  clear oq
  have hC1 := fun (w : World) (T : TwM W0 w hA gA most (woN (look S) S.length q.i) (Ytgknmicblnldiaa.wo (look S) q.i) hb Bs S) => rforget_any q.i w T.le T.rf
  have HA := Lib.hid (fun (w : World) (T : TwM W0 w hA gA most S.length (look S) hb Bs S) => forget_any q.i hq.i w T.ta)
  have HC := Lib.hid hC1
  generalize fE (look S q.i) = x at *
  have HQ := Lib.hid (fun (w1 w2 : World) (T : List Nat) (h : RowO w1 bo q) (k : Keep T w1 w2) (hn : bo ∉ T) => (row_keep h k hn : RowO w2 bo q))
  have OD := Lib.hid (show RowO w0.drew bo q from RowO.below OQ.out (Below.refl _ _).drew)
  have hS0 := (show ∀ (w1 : World), RowO w1 bo q → w1.cell? ⟨bo, 1, none⟩ = some (.int .u64 q.i.tx) ∧ w1.cell? ⟨bo, 2, none⟩ = some (.int .i64 q.i.b) ∧ w1.cell? ⟨bo, 3, none⟩ = some (.int .i64 q.i.r) ∧ w1.cell? ⟨bo, 4, none⟩ = some (.int .u32 q.i.x) from fun _ h => ⟨h.all.2.1, h.all.2.2.1, h.all.2.2.2.1, h.all.2.2.2.2.1⟩)
  have HS := Lib.hid hS0
  have hsd := HS.out _ OD.out
  have hsw := HS.out _ OQ.out
  clear hC1 hS0
  clear q5 q6 q7
  go_wp2_with fail
  go_region_held3 (fun w' => w'.cell? ⟨bo, 1, none⟩ = some (.int .u64 q.i.tx) ∧ w'.cell? ⟨bo, 2, none⟩ = some (.int .i64 q.i.b) ∧ w'.cell? ⟨bo, 3, none⟩ = some (.int .i64 q.i.r) ∧ w'.cell? ⟨bo, 4, none⟩ = some (.int .u32 q.i.x))
    (first | with_reducible assumption | exact HS.out _ OD.out)
    (first
      | (go_at_call 17; refine (HA.out _ (T0.out.below (Below.refl _ _).drew)).mono ?_; rintro e w3 ⟨rfl, t3, k3⟩; have T3 := Lib.hid ((T0.out.below (Below.refl _ _).drew).turnA t3 k3); have O3 := Lib.hid (HQ.out _ _ _ OD.out k3 (by have := HGA.out.1; simp; omega)); have H3 := HS.out _ O3.out; clear t3 k3)
      | (go_at_call 21; refine (HC.out _ T3.out).mono ?_; rintro e w4 ⟨rfl, S2, Bs2, hR, hT, hlen, hlook⟩; have T4 := Lib.hid (show TwM W0 w4 hA gA most S2.length (look S2) hb Bs2 S2 by rw [hlen, hlook]; exact T3.out.turnC hR hT); have H4 := HS.out _ (HQ.out _ _ _ O3.out hT.keep (fun hm => by have := HBO.out _ hm; omega)); clear hR hT hlen hlook))
  go_wp2_with fail
  go_ret
  exact ⟨rfl, S2, Bs2, T4.out⟩
set_option maxRecDepth 100000 in
set_option maxHeartbeats 16000000 in
theorem step_5 (q : Opn) (hq : q.Ok) (hk : ¬ q.kind = 1 ∧ ¬ q.kind = 2 ∧ ¬ q.kind = 3 ∧ ¬ q.kind = 4) (w : World) (h : Tw W0 w hA gA most hb S) :
    Calls Try.prog 10 #[.pointer (some ⟨hA, 0, none⟩), .pointer (some ⟨hb, 0, none⟩), q.ag] w fun e w' => e = .returned (.bool true) ∧ ∃ S', Tw W0 w' hA gA most hb S' := by
  obtain ⟨Bs, h⟩ := h
  have bq := below_alloc (Below.refl w.heap.size w) q.obj
  have oq := RowO.new w q
  have T0 := Lib.hid (h.below bq)
  have HBO := Lib.hid (show ∀ x ∈ Bs, x < w.heap.size from fun x hx => (h.rf.blocks x hx).2)
  have HGA := Lib.hid (show gA < w.heap.size ∧ hA < w.heap.size from ⟨h.ta.map.lt, h.ta.hlt⟩)
  have E1 := eql_bb
  have E2 := eql_aa
  have HK := Lib.hid hk
  clear hk
  simp only [Opn.obj] at bq oq T0
  simp only [Opn.ag]
  clear h bq
  go_enter Try.func10, Try.ntmps10
  go_upto_region 1 with (fail)
  generalize hbo : w.heap.size = bo at *
  generalize w.alloc (.cells #[.int .i64 q.kind, .int .u64 q.i.tx, .int .i64 q.i.b, .int .i64 q.i.r, .int .u32 q.i.x, .int .u32 q.b.round, .int .u8 q.b.node, .string q.v] 40) = w0 at *
  obtain ⟨q0, q1, q2, q3, q4, q5, q6, q7⟩ := oq.all
  have OQ := Lib.hid oq
  obtain ⟨k1, k2, k3, k4⟩ := HK.out
  clear oq
  go_wp2_with fail
  go_ret
  exact ⟨rfl, S, Bs, T0.out⟩
theorem step_any (q : Opn) (hq : q.Ok) (w : World) (h : Tw W0 w hA gA most hb S) :
    Calls Try.prog 10 #[.pointer (some ⟨hA, 0, none⟩), .pointer (some ⟨hb, 0, none⟩), q.ag] w fun e w' => e = .returned (.bool true) ∧ ∃ S', Tw W0 w' hA gA most hb S' := by
  by_cases k1 : q.kind = 1
  · exact step_1 q hq k1 w h
  by_cases k2 : q.kind = 2
  · exact step_2 q hq k2 w h
  by_cases k3 : q.kind = 3
  · exact step_3 q hq k3 w h
  by_cases k4 : q.kind = 4
  · exact step_4 q hq k4 w h
  exact step_5 q hq ⟨k1, k2, k3, k4⟩ w h
end
end Go.Proofs.Ytgknmicblnldiaa
