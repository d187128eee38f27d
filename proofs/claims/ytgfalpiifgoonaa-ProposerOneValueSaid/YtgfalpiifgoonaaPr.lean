/- Prepare. -/
import Derived.Test.YtgfalpiifgoonaaPl
namespace Go.Proofs.Ytgfalpiifgoonaa
open Go.RowKit Go.Sort
set_option linter.unusedVariables false
set_option maxRecDepth 100000

section
variable {w w' : World} {B hn gm most n : Nat} {f : Fn}
set_option maxRecDepth 100000 in
set_option maxHeartbeats 1600000 in
theorem prepare_err (p : Value) (i : In) (b : Bl) (x : Int) (hx : x ≠ 0) (w : World)
    (hc : ∀ w', Below w.heap.size w w' → Calls Try.prog 33 #[p, i.ag] w' fun e w2 => e = .returned (.tuple #[r0.ag, .int .i64 x]) ∧ Below w'.heap.size w' w2) :
    Calls Try.prog 30 #[p, i.ag, b.ag] w fun e w' => e = .returned (.tuple #[a0.ag, b0.ag, .bool false, .int .i64 x]) ∧ Below w.heap.size w w' := by
  obtain ⟨W, hW⟩ : ∃ W, W = (((w.alloc i.obj).alloc b.obj).alloc a0.obj).alloc b0.obj := ⟨_, rfl⟩
  have bW : Below w.heap.size w W := by rw [hW]; exact below_alloc (below_alloc (below_alloc (below_alloc (Below.refl _ _) _) _) _) _
  have hz : W.heap.size = w.heap.size + 4 := by rw [hW]; simp
  have ki : Row4 W w.heap.size i := by
    have := (((Row4.new w i).below (below_alloc (Below.refl _ _) b.obj)).below (below_alloc (Below.refl _ _) a0.obj)).below (below_alloc (Below.refl _ _) b0.obj)
    rw [← hW] at this; exact this
  have kb : Row2 W (w.heap.size + 1) b := by
    have := ((Row2.new (w.alloc i.obj) b).below (below_alloc (Below.refl _ _) a0.obj)).below (below_alloc (Below.refl _ _) b0.obj)
    rw [← hW, show (w.alloc i.obj).heap.size = w.heap.size + 1 by simp] at this; exact this
  have ka : RowA W (w.heap.size + 2) a0 := by
    have := (RowA.new ((w.alloc i.obj).alloc b.obj) a0).below (below_alloc (Below.refl _ _) b0.obj)
    rw [← hW, show ((w.alloc i.obj).alloc b.obj).heap.size = w.heap.size + 2 by simp] at this; exact this
  have kq : Row2 W (w.heap.size + 3) b0 := by
    have := Row2.new (((w.alloc i.obj).alloc b.obj).alloc a0.obj) b0
    rw [← hW, show (((w.alloc i.obj).alloc b.obj).alloc a0.obj).heap.size = w.heap.size + 3 by simp] at this; exact this
  have HC := Lib.hid (hc W bW)
  clear hc
  obtain ⟨d0, d1, d2, d3⟩ := ki.all
  have HB := Lib.hid bW
  have KI := Lib.hid ki; have KB := Lib.hid kb; have KA := Lib.hid ka; have KQ := Lib.hid kq
  have HZ := Lib.hid hz
  clear ki kb ka kq bW
  obtain ⟨tx, ib, ir, ix⟩ := i
  obtain ⟨br, bn⟩ := b
  simp only [In.ag, In.obj, Rw.ag, Bl.ag, Bl.obj, Ac.ag, Ac.obj] at hW HC ⊢
  go_enter Try.func30, Try.ntmps30
  go_upto_region 1 with (fail)
  rw [← hW]
  clear hW hz
  generalize hbi : w.heap.size = bi at *
  go_wp2_with fail
  refine HC.out.mono ?_; rintro e w1 ⟨rfl, b1⟩
  have a1 := (KA.out.below b1).below (below_alloc (Below.refl _ _) r0.obj)
  have q1 := (KQ.out.below b1).below (below_alloc (Below.refl _ _) r0.obj)
  have HB1 := Lib.hid (below_alloc' (HB.out.trans (b1.mono (by have := HZ.out; omega))) (Nat.le_trans (by have := HZ.out; omega) b1.size) r0.obj)
  have HS1 := Lib.hid (show bi ≤ (w1.alloc r0.obj).heap.size by have := b1.size; have := HZ.out; simp; omega)
  obtain ⟨e0, e1, e2, e3, f0, f1, f2, f3⟩ := a1.all
  obtain ⟨g0, g1, h0, h1⟩ := q1.all
  simp only [Rw.obj] at HB1 HS1 e0 e1 e2 e3 f0 f1 f2 f3 g0 g1 h0 h1
  clear a1 q1 b1 d0 d1 d2 d3 HC HZ KI KB KA KQ HB
  go_upto_region 2 with (fail)
  generalize hbw : w1.heap.size = bw at *
  generalize w1.alloc (.cells #[.int .u32 0, .int .u8 0, .bool false, .int .u32 0, .int .u8 0, .string ⟨#[]⟩] 114) = W3 at *
  go_wp2_with fail
  refine bodyPost_ret (v := .tuple #[.agg #[.bool false, .int .u32 0, .int .u8 0, .string ⟨#[]⟩], .agg #[.int .u32 0, .int .u8 0], .bool false, .int .i64 x]) (res_c2t2 Try.results30 rfl rfl ?_ ?_ rfl rfl) rfl ⟨rfl, ?_⟩
  · go_simp
  · go_simp
  · first | rw [hbi] | skip
    exact HB1.out.trans ((((layA_keep W3 (bi + 2) a0).mono (T := [bi + 2, bi + 3]) (by simp)).trans ((lay2_keep _ (bi + 3) b0).mono (by simp))).below HS1.out (by simp))
set_option maxRecDepth 100000 in
set_option maxHeartbeats 1600000 in
theorem prepare_low (i : In) (hi : i.Ok) (b : Bl) (w : World) (h : TabW w B hn gm most n f) {r : Rw} (hs : stt (f i) n most = some r) (hlow : low b r.p = true) :
    Calls Try.prog 30 #[.pointer (some ⟨hn, 0, none⟩), i.ag, b.ag] w fun e w' => e = .returned (.tuple #[a0.ag, r.p.ag, .bool false, .int .i64 0]) ∧ Below w.heap.size w w' := by
  obtain ⟨W, hW⟩ : ∃ W, W = (((w.alloc i.obj).alloc b.obj).alloc a0.obj).alloc b0.obj := ⟨_, rfl⟩
  have bW : Below w.heap.size w W := by rw [hW]; exact below_alloc (below_alloc (below_alloc (below_alloc (Below.refl _ _) _) _) _) _
  have hz : W.heap.size = w.heap.size + 4 := by rw [hW]; simp
  have ki : Row4 W w.heap.size i := by
    have := (((Row4.new w i).below (below_alloc (Below.refl _ _) b.obj)).below (below_alloc (Below.refl _ _) a0.obj)).below (below_alloc (Below.refl _ _) b0.obj)
    rw [← hW] at this; exact this
  have kb : Row2 W (w.heap.size + 1) b := by
    have := ((Row2.new (w.alloc i.obj) b).below (below_alloc (Below.refl _ _) a0.obj)).below (below_alloc (Below.refl _ _) b0.obj)
    rw [← hW, show (w.alloc i.obj).heap.size = w.heap.size + 1 by simp] at this; exact this
  have ka : RowA W (w.heap.size + 2) a0 := by
    have := (RowA.new ((w.alloc i.obj).alloc b.obj) a0).below (below_alloc (Below.refl _ _) b0.obj)
    rw [← hW, show ((w.alloc i.obj).alloc b.obj).heap.size = w.heap.size + 2 by simp] at this; exact this
  have kq : Row2 W (w.heap.size + 3) b0 := by
    have := Row2.new (((w.alloc i.obj).alloc b.obj).alloc a0.obj) b0
    rw [← hW, show (((w.alloc i.obj).alloc b.obj).alloc a0.obj).heap.size = w.heap.size + 3 by simp] at this; exact this
  have HC := Lib.hid (place_ok i hi W (h.below bW) hs)
  have HL := Lib.hid (fun w => by have := less_any b r.p w; rw [hlow] at this; exact this)
  clear h hi hs hlow
  obtain ⟨d0, d1, d2, d3⟩ := ki.all
  have HB := Lib.hid bW
  have KI := Lib.hid ki; have KB := Lib.hid kb; have KA := Lib.hid ka; have KQ := Lib.hid kq
  have HZ := Lib.hid hz
  clear ki kb ka kq bW
  obtain ⟨⟨pr, pn⟩, ⟨is, ⟨ar, an⟩, av⟩⟩ := r
  obtain ⟨tx, ib, ir, ix⟩ := i
  obtain ⟨br, bn⟩ := b
  simp only [In.ag, In.obj, Rw.ag, Bl.ag, Bl.obj, Ac.ag, Ac.obj] at hW HC HL ⊢
  go_enter Try.func30, Try.ntmps30
  go_upto_region 1 with (fail)
  rw [← hW]
  clear hW hz
  generalize hbi : w.heap.size = bi at *
  go_wp2_with fail
  refine HC.out.mono ?_; rintro e w1 ⟨rfl, b1⟩
  have a1 := (KA.out.below b1).below (below_alloc (Below.refl _ _) (Rw.obj ⟨⟨pr, pn⟩, ⟨is, ⟨ar, an⟩, av⟩⟩))
  have q1 := (KQ.out.below b1).below (below_alloc (Below.refl _ _) (Rw.obj ⟨⟨pr, pn⟩, ⟨is, ⟨ar, an⟩, av⟩⟩))
  have i1 := (KI.out.below b1).below (below_alloc (Below.refl _ _) (Rw.obj ⟨⟨pr, pn⟩, ⟨is, ⟨ar, an⟩, av⟩⟩))
  have j1 := (KB.out.below b1).below (below_alloc (Below.refl _ _) (Rw.obj ⟨⟨pr, pn⟩, ⟨is, ⟨ar, an⟩, av⟩⟩))
  have n1 := Row6.new w1 ⟨⟨pr, pn⟩, ⟨is, ⟨ar, an⟩, av⟩⟩
  have b2 := below_alloc' (HB.out.trans (b1.mono (by have := HZ.out; omega))) (Nat.le_trans (by have := HZ.out; omega) b1.size) (Rw.obj ⟨⟨pr, pn⟩, ⟨is, ⟨ar, an⟩, av⟩⟩)
  have hs1 : bi ≤ (w1.alloc (Rw.obj ⟨⟨pr, pn⟩, ⟨is, ⟨ar, an⟩, av⟩⟩)).heap.size := by have := b1.size; have := HZ.out; simp; omega
  have HNE := Lib.hid (show bi + 3 < w1.heap.size by have := b1.size; have := HZ.out; omega)
  simp only [Rw.obj] at a1 q1 i1 j1 n1 b2 hs1
  clear b1 d0 d1 d2 d3 HC HZ KI KB KA KQ HB
  go_upto_region 2 with (fail)
  generalize hbw : w1.heap.size = bw at *
  generalize w1.alloc (.cells #[.int .u32 pr, .int .u8 pn, .bool is, .int .u32 ar, .int .u8 an, .string av] 114) = W3 at *
  have A1 := Lib.hid a1; have Q1 := Lib.hid q1; have I1 := Lib.hid i1; have J1 := Lib.hid j1; have N1 := Lib.hid n1; have B2 := Lib.hid b2; have S1 := Lib.hid hs1
  obtain ⟨c0, c1, _, _⟩ := j1.all
  obtain ⟨c2, c3, _, _, _, _⟩ := n1.all
  simp only at c0 c1 c2 c3
  clear a1 q1 i1 j1 n1 b2 hs1
  go_wp2_with fail
  refine (HL.out _).mono ?_; rintro e w4 ⟨rfl, b4⟩
  have A2 := Lib.hid (A1.out.below b4); have Q2 := Lib.hid (Q1.out.below b4); have I2 := Lib.hid (I1.out.below b4); have J2 := Lib.hid (J1.out.below b4); have N2 := Lib.hid (N1.out.below b4)
  have B4 := Lib.hid (B2.out.trans (b4.mono S1.out)); have S2 := Lib.hid (Nat.le_trans S1.out b4.size)
  clear A1 Q1 I1 J1 N1 B2 S1 b4 c0 c1 c2 c3 HL
  go_wp2_with fail
  obtain ⟨e0, e1, e2, e3, f0, f1, f2, f3⟩ := A2.out.all
  obtain ⟨g0, g1, h0, h1⟩ := Q2.out.all
  obtain ⟨k0, k1, _, _, _, _⟩ := N2.out.all
  have ne1 : bw ≠ bi + 2 := by have := HNE.out; omega
  have ne2 : bw ≠ bi + 3 := by have := HNE.out; omega
  simp only at e0 e1 e2 e3 f0 f1 f2 f3 g0 g1 h0 h1 k0 k1
  clear A2 Q2 I2 J2 N2 HNE
  go_region
  go_wp2_with fail
  refine bodyPost_ret (v := .tuple #[.agg #[.bool false, .int .u32 0, .int .u8 0, .string ⟨#[]⟩], .agg #[.int .u32 pr, .int .u8 pn], .bool false, .int .i64 0]) (res_c2t2 Try.results30 rfl rfl ?_ ?_ rfl rfl) rfl ⟨rfl, ?_⟩
  · go_simp
  · go_simp
  · first | rw [hbi] | skip
    have kk := ((layA_keep w4 (bi + 2) a0).mono (T := [bi + 2, bi + 3]) (by simp)).trans ((lay2_keep _ (bi + 3) ⟨pr, pn⟩).mono (by simp))
    exact B4.out.trans ((kk.below S2.out (by simp)).drew)
set_option maxRecDepth 100000 in
set_option maxHeartbeats 1600000 in
theorem prepare_yes (i : In) (hi : i.Ok) (b : Bl) (w : World) (h : TabW w B hn gm most n f) {r : Rw} (hs : stt (f i) n most = some r) (hlow : low b r.p = false) :
    Calls Try.prog 30 #[.pointer (some ⟨hn, 0, none⟩), i.ag, b.ag] w fun e w' => e = .returned (.tuple #[r.a.ag, b.ag, .bool true, .int .i64 0]) ∧ TabW w' B hn gm most (if (f i).isSome then n else n + 1) (upd f i (some ⟨b, r.a⟩)) ∧ Keep [gm] w w' := by
  obtain ⟨W, hW⟩ : ∃ W, W = (((w.alloc i.obj).alloc b.obj).alloc a0.obj).alloc b0.obj := ⟨_, rfl⟩
  have bW : Below w.heap.size w W := by rw [hW]; exact below_alloc (below_alloc (below_alloc (below_alloc (Below.refl _ _) _) _) _) _
  have hz : W.heap.size = w.heap.size + 4 := by rw [hW]; simp
  have ki : Row4 W w.heap.size i := by
    have := (((Row4.new w i).below (below_alloc (Below.refl _ _) b.obj)).below (below_alloc (Below.refl _ _) a0.obj)).below (below_alloc (Below.refl _ _) b0.obj)
    rw [← hW] at this; exact this
  have kb : Row2 W (w.heap.size + 1) b := by
    have := ((Row2.new (w.alloc i.obj) b).below (below_alloc (Below.refl _ _) a0.obj)).below (below_alloc (Below.refl _ _) b0.obj)
    rw [← hW, show (w.alloc i.obj).heap.size = w.heap.size + 1 by simp] at this; exact this
  have ka : RowA W (w.heap.size + 2) a0 := by
    have := (RowA.new ((w.alloc i.obj).alloc b.obj) a0).below (below_alloc (Below.refl _ _) b0.obj)
    rw [← hW, show ((w.alloc i.obj).alloc b.obj).heap.size = w.heap.size + 2 by simp] at this; exact this
  have kq : Row2 W (w.heap.size + 3) b0 := by
    have := Row2.new (((w.alloc i.obj).alloc b.obj).alloc a0.obj) b0
    rw [← hW, show (((w.alloc i.obj).alloc b.obj).alloc a0.obj).heap.size = w.heap.size + 3 by simp] at this; exact this
  have HC := Lib.hid (place_ok i hi W (h.below bW) hs)
  have HL := Lib.hid (fun w => by have := less_any b r.p w; rw [hlow] at this; exact this)
  have HPUT := Lib.hid (fun w' (t : TabW w' B hn gm most n f) => t.put i hi (stt_room hs) ⟨b, r.a⟩)
  have HT := Lib.hid h
  have HLT := Lib.hid (And.intro h.hlt h.map.lt)
  clear h hi hs hlow
  generalize hnn : (if (f i).isSome then n else n + 1) = nn at *
  generalize huu : upd f i (some ⟨b, r.a⟩) = uu at *
  obtain ⟨d0, d1, d2, d3⟩ := ki.all
  have HB := Lib.hid bW
  have KI := Lib.hid ki; have KB := Lib.hid kb; have KA := Lib.hid ka; have KQ := Lib.hid kq
  have HZ := Lib.hid hz
  clear ki kb ka kq bW
  obtain ⟨⟨pr, pn⟩, ⟨is, ⟨ar, an⟩, av⟩⟩ := r
  obtain ⟨tx, ib, ir, ix⟩ := i
  obtain ⟨br, bn⟩ := b
  simp only [In.ag, In.obj, Rw.ag, Bl.ag, Bl.obj, Ac.ag, Ac.obj] at hW HC HL ⊢
  go_enter Try.func30, Try.ntmps30
  go_upto_region 1 with (fail)
  rw [← hW]
  clear hW hz
  generalize hbi : w.heap.size = bi at *
  go_wp2_with fail
  refine HC.out.mono ?_; rintro e w1 ⟨rfl, b1⟩
  have a1 := (KA.out.below b1).below (below_alloc (Below.refl _ _) (Rw.obj ⟨⟨pr, pn⟩, ⟨is, ⟨ar, an⟩, av⟩⟩))
  have q1 := (KQ.out.below b1).below (below_alloc (Below.refl _ _) (Rw.obj ⟨⟨pr, pn⟩, ⟨is, ⟨ar, an⟩, av⟩⟩))
  have i1 := (KI.out.below b1).below (below_alloc (Below.refl _ _) (Rw.obj ⟨⟨pr, pn⟩, ⟨is, ⟨ar, an⟩, av⟩⟩))
  have j1 := (KB.out.below b1).below (below_alloc (Below.refl _ _) (Rw.obj ⟨⟨pr, pn⟩, ⟨is, ⟨ar, an⟩, av⟩⟩))
  have n1 := Row6.new w1 ⟨⟨pr, pn⟩, ⟨is, ⟨ar, an⟩, av⟩⟩
  have b2 := below_alloc' (HB.out.trans (b1.mono (by have := HZ.out; omega))) (Nat.le_trans (by have := HZ.out; omega) b1.size) (Rw.obj ⟨⟨pr, pn⟩, ⟨is, ⟨ar, an⟩, av⟩⟩)
  have hs1 : bi ≤ (w1.alloc (Rw.obj ⟨⟨pr, pn⟩, ⟨is, ⟨ar, an⟩, av⟩⟩)).heap.size := by have := b1.size; have := HZ.out; simp; omega
  have HNE := Lib.hid (show bi + 3 < w1.heap.size by have := b1.size; have := HZ.out; omega)
  simp only [Rw.obj] at a1 q1 i1 j1 n1 b2 hs1
  clear b1 d0 d1 d2 d3 HC HZ KI KB KA KQ HB
  go_upto_region 2 with (fail)
  generalize hbw : w1.heap.size = bw at *
  generalize w1.alloc (.cells #[.int .u32 pr, .int .u8 pn, .bool is, .int .u32 ar, .int .u8 an, .string av] 114) = W3 at *
  have A1 := Lib.hid a1; have Q1 := Lib.hid q1; have I1 := Lib.hid i1; have J1 := Lib.hid j1; have N1 := Lib.hid n1; have B2 := Lib.hid b2; have S1 := Lib.hid hs1
  obtain ⟨c0, c1, _, _⟩ := j1.all
  obtain ⟨c2, c3, _, _, _, _⟩ := n1.all
  simp only at c0 c1 c2 c3
  clear a1 q1 i1 j1 n1 b2 hs1
  go_wp2_with fail
  refine (HL.out _).mono ?_; rintro e w4 ⟨rfl, b4⟩
  have A2 := Lib.hid (A1.out.below b4); have Q2 := Lib.hid (Q1.out.below b4); have I2 := Lib.hid (I1.out.below b4); have J2 := Lib.hid (J1.out.below b4); have N2 := Lib.hid (N1.out.below b4)
  have B4 := Lib.hid (B2.out.trans (b4.mono S1.out)); have S2 := Lib.hid (Nat.le_trans S1.out b4.size)
  clear A1 Q1 I1 J1 N1 B2 S1 b4 c0 c1 c2 c3 HL
  go_wp2_with fail
  have t4 := HT.out.below (by rw [hbi]; exact B4.out)
  have HT4 := Lib.hid t4
  obtain ⟨e0, e1, e2, e3⟩ := I2.out.all
  obtain ⟨g0, g1, _, _⟩ := J2.out.all
  obtain ⟨_, _, k2, k3, k4, k5⟩ := N2.out.all
  simp only at e0 e1 e2 e3 g0 g1 k2 k3 k4 k5
  have x0 := cell_regrown t4.at1; have x1 := cell_regrown e0; have x2 := cell_regrown e1; have x3 := cell_regrown e2; have x4 := cell_regrown e3
  have x5 := cell_regrown g0; have x6 := cell_regrown g1; have x7 := cell_regrown k2; have x8 := cell_regrown k3; have x9 := cell_regrown k4; have x10 := cell_regrown k5
  clear t4 e0 e1 e2 e3 g0 g1 k2 k3 k4 k5
  refine region_tail 9 (by kernel_rfl) (by kernel_rfl) ?_
  simp only [List.take_succ_cons, List.take_zero, List.drop_succ_cons, List.drop_zero]
  repeat (go_big_quiet_step (fail))
  refine wpQuiet_nil ?_
  intro _ hw'
  obtain ⟨⟨dq, osq⟩, hw''⟩ := hw'
  subst hw''
  have lk := below_regrown w4 dq osq
  obtain ⟨w5, hr, t5, p5⟩ := HPUT.out _ (HT4.out.below lk)
  simp only [In.ag, Rw.ag] at hr
  have hg := HLT.out.2
  have A5 : RowA w5 (bi + 2) a0 := row_keep (A2.out.below lk) p5 (by simp; omega)
  have Q5 : Row2 w5 (bi + 3) b0 := row_keep (Q2.out.below lk) p5 (by simp; omega)
  have J5 : Row2 w5 (bi + 1) ⟨br, bn⟩ := row_keep (J2.out.below lk) p5 (by simp; omega)
  have N5 : Row6 w5 bw ⟨⟨pr, pn⟩, ⟨is, ⟨ar, an⟩, av⟩⟩ := row_keep (N2.out.below lk) p5 (by have := HNE.out; simp; omega)
  have B5 := Lib.hid ((Keep.of_below (by rw [hbi]; exact B4.out.trans (lk.mono S2.out) : Below w.heap.size w _) [gm]).trans p5)
  clear x0 x1 x2 x3 x4 x5 x6 x7 x8 x9 x10 HPUT HT4
  generalize grow (redrawn w4 dq) osq = w6 at *
  have HT5 := Lib.hid t5
  clear t5 p5 A2 Q2 J2 N2 I2 lk B4
  go_wp2_with fail
  obtain ⟨e0, e1, e2, e3, f0, f1, f2, f3⟩ := RowA.all A5
  obtain ⟨g0, g1, h0, h1⟩ := Row2.all Q5
  obtain ⟨j0, j1, _, _⟩ := Row2.all J5
  obtain ⟨_, _, k2, k3, k4, k5⟩ := Row6.all N5
  have ne1 : bw ≠ bi + 2 := by have := HNE.out; omega
  have ne2 : bw ≠ bi + 3 := by have := HNE.out; omega
  simp only at e0 e1 e2 e3 f0 f1 f2 f3 g0 g1 h0 h1 j0 j1 k2 k3 k4 k5
  clear A5 Q5 J5 N5 HNE hg hr
  go_region
  go_wp2_with fail
  have kk := (((layA_keep w5 (bi + 2) ⟨is, ⟨ar, an⟩, av⟩).mono (T := [bi + 2, bi + 3]) (by simp)).trans ((lay2_keep _ (bi + 3) ⟨br, bn⟩).mono (by simp))).drew
  have hg := HLT.out
  refine bodyPost_ret (v := .tuple #[.agg #[.bool is, .int .u32 ar, .int .u8 an, .string av], .agg #[.int .u32 br, .int .u8 bn], .bool true, .int .i64 0]) (res_c2t2 Try.results30 rfl rfl ?_ ?_ rfl rfl) rfl ⟨rfl, ?_, ?_⟩
  · go_simp
  · go_simp
  · exact HT5.out.keep kk (by simp; omega) (by simp; omega)
  · exact B5.out.cut kk (by rw [hbi]; simp)
end
end Go.Proofs.Ytgfalpiifgoonaa
