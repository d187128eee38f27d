/- The document's given (gen_rg.py writes it). -/
import Derived.Test.YtikeiocgnjdhbaaRo
namespace Go.Proofs.Ytikeiocgnjdhbaa
open Go.RowKit Go.Sort
set_option linter.unusedVariables false
set_option linter.unusedSimpArgs false
set_option maxRecDepth 100000

theorem four_boxes (w : World) (T U : Tb) (D : Dc) : ∃ W, W = (((w.alloc (.cells ⟨T.list⟩ 29)).alloc (.cells ⟨U.list⟩ 29)).alloc (.cells D.cells 39)).alloc (.cells ⟨Tb.zero.list⟩ 29) ∧ TbR W w.heap.size T ∧ TbR W (w.heap.size + 1) U ∧ DcR W (w.heap.size + 2) D ∧ TbR W (w.heap.size + 3) Tb.zero
    ∧ Below w.heap.size w W ∧ W.heap.size = w.heap.size + 4 := by
  refine ⟨_, rfl, ((TbR.new w T).alloc _).alloc _ |>.alloc _, ?_, ?_, ?_, below_alloc (below_alloc (below_alloc (below_alloc (Below.refl _ _) _) _) _) _, by simp⟩
  · have := TbR.new (w.alloc (.cells ⟨T.list⟩ 29)) U
    rw [World.size_alloc] at this
    exact (this.alloc _).alloc _
  · have := DcR.new ((w.alloc (.cells ⟨T.list⟩ 29)).alloc (.cells ⟨U.list⟩ 29)) D
    rw [World.size_alloc, World.size_alloc] at this
    exact this.alloc _
  · have := TbR.new (((w.alloc (.cells ⟨T.list⟩ 29)).alloc (.cells ⟨U.list⟩ 29)).alloc (.cells D.cells 39)) Tb.zero
    rw [World.size_alloc, World.size_alloc, World.size_alloc] at this
    exact this
set_option maxHeartbeats 2000000 in
theorem rg_mem (T U : Tb) (hok : T.Ok) (sU : U.Sz) (D : Dc) (q : Nat) (hq : D.node = (q : Int)) (hq12 : q < 12) (hm : T.m q = false) : Ret 26 #[T.v, U.v, D.v] (.returned (.tuple #[.agg ⟨(T).list⟩, .int .i64 143])) := by
  intro w
  have hz := zero_run
  have sT := hok.sz
  have HQ := Lib.hid hq
  have C1 := Lib.hid (rright_any D.f D.z)
  generalize rightB D.f D.z = rb at *
  have HM := Lib.hid hm
  clear hm
  clear hq
  obtain ⟨W, HWE, h1, h2, h3, h4, hW, hsz⟩ := four_boxes w T U D
  go_enter Try.func26, Try.ntmps26
  go_upto_region 1 with (fail)
  rw [← HWE]
  clear HWE
  have cf := h3.ff
  have cz := h3.zz
  have HT := Lib.hid h1
  have HU := Lib.hid h2
  have HD := Lib.hid h3
  have HZ := Lib.hid h4
  have HW := Lib.hid hW
  have HSZ := Lib.hid (Nat.le_of_eq hsz.symm)
  clear h1 h2 h3 h4 hW hsz
  go_wp2_with fail
  refine (C1.out _).mono ?_
  rintro e w1 ⟨rfl, l1⟩
  replace HT := Lib.hid (HT.out.keep l1)
  replace HU := Lib.hid (HU.out.keep l1)
  replace HD := Lib.hid (HD.out.keep l1)
  replace HZ := Lib.hid (HZ.out.keep l1)
  replace HW := Lib.hid (below_next HW.out l1)
  replace HSZ := Lib.hid (Nat.le_trans HSZ.out l1.size)
  clear cf cz l1
  have cn := HD.out.nn
  rw [HQ.out] at cn
  have cm := HT.out.mem sT hq12
  rw [HM.out] at cm
  go_wp2_with (first
    | (refine load_tb (T := T) rfl rfl rfl HT.out sT ?_)
    | (refine store_tb (U := T) rfl rfl rfl rfl HZ.out Tb.zero_sz sT ?_))
  have HV := Lib.hid ((HZ.out.setRow T).var sT)
  exact bodyPost_ret (v := .tuple #[.agg ⟨T.list⟩, .int .i64 143]) (results_cell_tmp Try.results26 rfl rfl HV.out) rfl ⟨rfl, below_setRow HW.out _ _ (by omega)⟩

set_option maxHeartbeats 2000000 in
theorem rg_no (T U : Tb) (hok : T.Ok) (sU : U.Sz) (D : Dc) (q : Nat) (hq : D.node = (q : Int)) (hq12 : q < 12) (hm : T.m q = true) (hr : rightB D.f D.z = false) : Ret 26 #[T.v, U.v, D.v] (.returned (.tuple #[.agg ⟨(T).list⟩, .int .i64 1])) := by
  intro w
  have hz := zero_run
  have sT := hok.sz
  have HQ := Lib.hid hq
  have C1 := Lib.hid (rright_any D.f D.z)
  rw [hr] at C1
  have HM := Lib.hid hm
  clear hm
  clear hr
  clear hq
  obtain ⟨W, HWE, h1, h2, h3, h4, hW, hsz⟩ := four_boxes w T U D
  go_enter Try.func26, Try.ntmps26
  go_upto_region 1 with (fail)
  rw [← HWE]
  clear HWE
  have cf := h3.ff
  have cz := h3.zz
  have HT := Lib.hid h1
  have HU := Lib.hid h2
  have HD := Lib.hid h3
  have HZ := Lib.hid h4
  have HW := Lib.hid hW
  have HSZ := Lib.hid (Nat.le_of_eq hsz.symm)
  clear h1 h2 h3 h4 hW hsz
  go_wp2_with fail
  refine (C1.out _).mono ?_
  rintro e w1 ⟨rfl, l1⟩
  replace HT := Lib.hid (HT.out.keep l1)
  replace HU := Lib.hid (HU.out.keep l1)
  replace HD := Lib.hid (HD.out.keep l1)
  replace HZ := Lib.hid (HZ.out.keep l1)
  replace HW := Lib.hid (below_next HW.out l1)
  replace HSZ := Lib.hid (Nat.le_trans HSZ.out l1.size)
  clear cf cz l1
  have cn := HD.out.nn
  rw [HQ.out] at cn
  have cm := HT.out.mem sT hq12
  rw [HM.out] at cm
  go_wp2_with (first
    | (refine load_tb (T := T) rfl rfl rfl HT.out sT ?_)
    | (refine store_tb (U := T) rfl rfl rfl rfl HZ.out Tb.zero_sz sT ?_))
  have HV := Lib.hid ((HZ.out.setRow T).var sT)
  exact bodyPost_ret (v := .tuple #[.agg ⟨T.list⟩, .int .i64 1]) (results_cell_tmp Try.results26 rfl rfl HV.out) rfl ⟨rfl, below_setRow HW.out _ _ (by omega)⟩

set_option maxHeartbeats 2000000 in
theorem rg_zero (T U : Tb) (hok : T.Ok) (sU : U.Sz) (D : Dc) (q : Nat) (hq : D.node = (q : Int)) (hq12 : q < 12) (hm : T.m q = true) (hr : rightB D.f D.z = true) (hz0 : D.z = 0) : Ret 26 #[T.v, U.v, D.v] (.returned (.tuple #[.agg ⟨(T).list⟩, .int .i64 1])) := by
  intro w
  have hz := zero_run
  have sT := hok.sz
  have HQ := Lib.hid hq
  have C1 := Lib.hid (rright_any D.f D.z)
  rw [hr] at C1
  have HM := Lib.hid hm
  clear hm
  clear hr
  have HZ0 := Lib.hid hz0; clear hz0
  clear hq
  obtain ⟨W, HWE, h1, h2, h3, h4, hW, hsz⟩ := four_boxes w T U D
  go_enter Try.func26, Try.ntmps26
  go_upto_region 1 with (fail)
  rw [← HWE]
  clear HWE
  have cf := h3.ff
  have cz := h3.zz
  have HT := Lib.hid h1
  have HU := Lib.hid h2
  have HD := Lib.hid h3
  have HZ := Lib.hid h4
  have HW := Lib.hid hW
  have HSZ := Lib.hid (Nat.le_of_eq hsz.symm)
  clear h1 h2 h3 h4 hW hsz
  go_wp2_with fail
  refine (C1.out _).mono ?_
  rintro e w1 ⟨rfl, l1⟩
  replace HT := Lib.hid (HT.out.keep l1)
  replace HU := Lib.hid (HU.out.keep l1)
  replace HD := Lib.hid (HD.out.keep l1)
  replace HZ := Lib.hid (HZ.out.keep l1)
  replace HW := Lib.hid (below_next HW.out l1)
  replace HSZ := Lib.hid (Nat.le_trans HSZ.out l1.size)
  clear cf cz l1
  have cn := HD.out.nn
  rw [HQ.out] at cn
  have cm := HT.out.mem sT hq12
  rw [HM.out] at cm
  have cz := HD.out.zz
  rw [HZ0.out] at cz
  go_wp2_with (first
    | (refine load_tb (T := T) rfl rfl rfl HT.out sT ?_)
    | (refine store_tb (U := T) rfl rfl rfl rfl HZ.out Tb.zero_sz sT ?_))
  have HV := Lib.hid ((HZ.out.setRow T).var sT)
  exact bodyPost_ret (v := .tuple #[.agg ⟨T.list⟩, .int .i64 1]) (results_cell_tmp Try.results26 rfl rfl HV.out) rfl ⟨rfl, below_setRow HW.out _ _ (by omega)⟩

set_option maxHeartbeats 2000000 in
theorem rg_owner (T U : Tb) (hok : T.Ok) (sU : U.Sz) (D : Dc) (q : Nat) (hq : D.node = (q : Int)) (hq12 : q < 12) (hm : T.m q = true) (hr : rightB D.f D.z = true) (hz0 : ¬ D.z = 0) (ha : allB T D.by_ D.f (np D.f D.z) = false) : Ret 26 #[T.v, U.v, D.v] (.returned (.tuple #[.agg ⟨(T).list⟩, .int .i64 141])) := by
  intro w
  have hz := zero_run
  have sT := hok.sz
  have HQ := Lib.hid hq
  have C1 := Lib.hid (rright_any D.f D.z)
  rw [hr] at C1
  have C2 := Lib.hid (rowns_any hok D.by_ D.f D.z)
  rw [ha] at C2
  have HM := Lib.hid hm
  clear hm
  clear hr ha
  clear hq
  obtain ⟨W, HWE, h1, h2, h3, h4, hW, hsz⟩ := four_boxes w T U D
  go_enter Try.func26, Try.ntmps26
  go_upto_region 1 with (fail)
  rw [← HWE]
  clear HWE
  have cf := h3.ff
  have cz := h3.zz
  have HT := Lib.hid h1
  have HU := Lib.hid h2
  have HD := Lib.hid h3
  have HZ := Lib.hid h4
  have HW := Lib.hid hW
  have HSZ := Lib.hid (Nat.le_of_eq hsz.symm)
  clear h1 h2 h3 h4 hW hsz
  go_wp2_with fail
  refine (C1.out _).mono ?_
  rintro e w1 ⟨rfl, l1⟩
  replace HT := Lib.hid (HT.out.keep l1)
  replace HU := Lib.hid (HU.out.keep l1)
  replace HD := Lib.hid (HD.out.keep l1)
  replace HZ := Lib.hid (HZ.out.keep l1)
  replace HW := Lib.hid (below_next HW.out l1)
  replace HSZ := Lib.hid (Nat.le_trans HSZ.out l1.size)
  clear cf cz l1
  have cn := HD.out.nn
  rw [HQ.out] at cn
  have cm := HT.out.mem sT hq12
  rw [HM.out] at cm
  have cz := HD.out.zz
  have cb := HD.out.bb
  have cf := HD.out.ff
  go_wp2_with (first
    | (refine load_tb (T := T) rfl rfl rfl HT.out sT ?_))
  refine (C2.out _).mono ?_
  rintro e w2 ⟨rfl, l2⟩
  replace HT := Lib.hid (HT.out.keep l2)
  replace HU := Lib.hid (HU.out.keep l2)
  replace HD := Lib.hid (HD.out.keep l2)
  replace HZ := Lib.hid (HZ.out.keep l2)
  replace HW := Lib.hid (below_next HW.out l2)
  replace HSZ := Lib.hid (Nat.le_trans HSZ.out l2.size)
  clear cz cb cf cn cm l2
  have cn := HD.out.nn
  have cb := HD.out.bb
  rw [HQ.out] at cn
  go_wp2_with (first
    | (refine load_tb (T := T) rfl rfl rfl HT.out sT ?_)
    | (refine store_tb (U := T) rfl rfl rfl rfl HZ.out Tb.zero_sz sT ?_))
  have HV := Lib.hid ((HZ.out.setRow T).var sT)
  exact bodyPost_ret (v := .tuple #[.agg ⟨T.list⟩, .int .i64 141]) (results_cell_tmp Try.results26 rfl rfl HV.out) rfl ⟨rfl, below_setRow HW.out _ _ (by omega)⟩

set_option maxHeartbeats 2000000 in
theorem rg_self (T U : Tb) (hok : T.Ok) (sU : U.Sz) (D : Dc) (q : Nat) (hq : D.node = (q : Int)) (hq12 : q < 12) (hm : T.m q = true) (hr : rightB D.f D.z = true) (hz0 : ¬ D.z = 0) (ha : allB T D.by_ D.f (np D.f D.z) = true) (hb : D.by_ = D.node) : Ret 26 #[T.v, U.v, D.v] (.returned (.tuple #[.agg ⟨(T).list⟩, .int .i64 141])) := by
  intro w
  have hz := zero_run
  have sT := hok.sz
  have HQ := Lib.hid hq
  have C1 := Lib.hid (rright_any D.f D.z)
  rw [hr] at C1
  have C2 := Lib.hid (rowns_any hok D.by_ D.f D.z)
  rw [ha] at C2
  have HM := Lib.hid hm
  clear hm
  clear hr ha
  have HB := Lib.hid hb; clear hb
  clear hq
  obtain ⟨W, HWE, h1, h2, h3, h4, hW, hsz⟩ := four_boxes w T U D
  go_enter Try.func26, Try.ntmps26
  go_upto_region 1 with (fail)
  rw [← HWE]
  clear HWE
  have cf := h3.ff
  have cz := h3.zz
  have HT := Lib.hid h1
  have HU := Lib.hid h2
  have HD := Lib.hid h3
  have HZ := Lib.hid h4
  have HW := Lib.hid hW
  have HSZ := Lib.hid (Nat.le_of_eq hsz.symm)
  clear h1 h2 h3 h4 hW hsz
  go_wp2_with fail
  refine (C1.out _).mono ?_
  rintro e w1 ⟨rfl, l1⟩
  replace HT := Lib.hid (HT.out.keep l1)
  replace HU := Lib.hid (HU.out.keep l1)
  replace HD := Lib.hid (HD.out.keep l1)
  replace HZ := Lib.hid (HZ.out.keep l1)
  replace HW := Lib.hid (below_next HW.out l1)
  replace HSZ := Lib.hid (Nat.le_trans HSZ.out l1.size)
  clear cf cz l1
  have cn := HD.out.nn
  rw [HQ.out] at cn
  have cm := HT.out.mem sT hq12
  rw [HM.out] at cm
  have cz := HD.out.zz
  have cb := HD.out.bb
  have cf := HD.out.ff
  go_wp2_with (first
    | (refine load_tb (T := T) rfl rfl rfl HT.out sT ?_))
  refine (C2.out _).mono ?_
  rintro e w2 ⟨rfl, l2⟩
  replace HT := Lib.hid (HT.out.keep l2)
  replace HU := Lib.hid (HU.out.keep l2)
  replace HD := Lib.hid (HD.out.keep l2)
  replace HZ := Lib.hid (HZ.out.keep l2)
  replace HW := Lib.hid (below_next HW.out l2)
  replace HSZ := Lib.hid (Nat.le_trans HSZ.out l2.size)
  clear cz cb cf cn cm l2
  have cn := HD.out.nn
  have cb := HD.out.bb
  rw [HQ.out] at cn
  rw [HB.out, HQ.out] at cb
  go_wp2_with (first
    | (refine load_tb (T := T) rfl rfl rfl HT.out sT ?_)
    | (refine store_tb (U := T) rfl rfl rfl rfl HZ.out Tb.zero_sz sT ?_))
  have HV := Lib.hid ((HZ.out.setRow T).var sT)
  exact bodyPost_ret (v := .tuple #[.agg ⟨T.list⟩, .int .i64 141]) (results_cell_tmp Try.results26 rfl rfl HV.out) rfl ⟨rfl, below_setRow HW.out _ _ (by omega)⟩

set_option maxHeartbeats 2000000 in
theorem rg_seen (T U : Tb) (hok : T.Ok) (sU : U.Sz) (D : Dc) (q : Nat) (hq : D.node = (q : Int)) (hq12 : q < 12) (hm : T.m q = true) (hr : rightB D.f D.z = true) (hz0 : ¬ D.z = 0) (ha : allB T D.by_ D.f (np D.f D.z) = true) (hb : ¬ D.by_ = D.node) (hk : D.kind = 3) (hs : ¬ T.r D.by_.toNat = D.seen) : Ret 26 #[T.v, U.v, D.v] (.returned (.tuple #[.agg ⟨(T).list⟩, .int .i64 142])) := by
  intro w
  have hz := zero_run
  have sT := hok.sz
  have HQ := Lib.hid hq
  have C1 := Lib.hid (rright_any D.f D.z)
  rw [hr] at C1
  have C2 := Lib.hid (rowns_any hok D.by_ D.f D.z)
  rw [ha] at C2
  have hby := by_node hr hz0 ha
  obtain ⟨x, hx, hx12⟩ : ∃ x : Nat, D.by_ = (x : Int) ∧ x < 12 := ⟨D.by_.toNat, by omega, by omega⟩
  have hxq : ¬ (x : Int) = (q : Int) := by rw [← hx, ← hq]; exact hb
  have HM := Lib.hid hm
  clear hm
  clear hr ha hb hby
  have HX := Lib.hid hx
  clear hx
  have HK := Lib.hid hk; clear hk
  have HS := Lib.hid hs; clear hs
  clear hq
  obtain ⟨W, HWE, h1, h2, h3, h4, hW, hsz⟩ := four_boxes w T U D
  go_enter Try.func26, Try.ntmps26
  go_upto_region 1 with (fail)
  rw [← HWE]
  clear HWE
  have cf := h3.ff
  have cz := h3.zz
  have HT := Lib.hid h1
  have HU := Lib.hid h2
  have HD := Lib.hid h3
  have HZ := Lib.hid h4
  have HW := Lib.hid hW
  have HSZ := Lib.hid (Nat.le_of_eq hsz.symm)
  clear h1 h2 h3 h4 hW hsz
  go_wp2_with fail
  refine (C1.out _).mono ?_
  rintro e w1 ⟨rfl, l1⟩
  replace HT := Lib.hid (HT.out.keep l1)
  replace HU := Lib.hid (HU.out.keep l1)
  replace HD := Lib.hid (HD.out.keep l1)
  replace HZ := Lib.hid (HZ.out.keep l1)
  replace HW := Lib.hid (below_next HW.out l1)
  replace HSZ := Lib.hid (Nat.le_trans HSZ.out l1.size)
  clear cf cz l1
  have cn := HD.out.nn
  rw [HQ.out] at cn
  have cm := HT.out.mem sT hq12
  rw [HM.out] at cm
  have cz := HD.out.zz
  have cb := HD.out.bb
  have cf := HD.out.ff
  go_wp2_with (first
    | (refine load_tb (T := T) rfl rfl rfl HT.out sT ?_))
  refine (C2.out _).mono ?_
  rintro e w2 ⟨rfl, l2⟩
  replace HT := Lib.hid (HT.out.keep l2)
  replace HU := Lib.hid (HU.out.keep l2)
  replace HD := Lib.hid (HD.out.keep l2)
  replace HZ := Lib.hid (HZ.out.keep l2)
  replace HW := Lib.hid (below_next HW.out l2)
  replace HSZ := Lib.hid (Nat.le_trans HSZ.out l2.size)
  clear cz cb cf cn cm l2
  have cn := HD.out.nn
  have cb := HD.out.bb
  rw [HQ.out] at cn
  rw [HX.out] at cb
  go_upto_region 9 with (fail)
  clear cn cb
  have ck := HD.out.kk
  rw [HK.out] at ck
  replace ck := cell_regrown ck
  have cb := cell_regrown HD.out.bb
  rw [HX.out] at cb
  have cs := cell_regrown HD.out.ss
  have cr := cell_regrown (HT.out.ren sT hx12)
  have hsn : (T.r x != D.seen) = true := by have := HS.out; rw [HX.out] at this; simpa using this
  refine wp_region_quiet_below (by kernel_rfl) (by kernel_rfl) ?_
  repeat (go_big_quiet_step (fail))
  refine wpQuiet_nil ?_
  intro _ hw'
  obtain ⟨⟨dq, osq⟩, hw''⟩ := hw'
  subst hw''
  have lk := below_regrown w2 dq osq
  generalize grow (redrawn w2 dq) osq = w3 at *
  replace HT := Lib.hid (HT.out.keep lk)
  replace HU := Lib.hid (HU.out.keep lk)
  replace HD := Lib.hid (HD.out.keep lk)
  replace HZ := Lib.hid (HZ.out.keep lk)
  replace HW := Lib.hid (below_next HW.out lk)
  replace HSZ := Lib.hid (Nat.le_trans HSZ.out lk.size)
  clear lk
  go_wp2_with (first
    | (refine load_tb (T := T) rfl rfl rfl HT.out sT ?_)
    | (refine store_tb (U := T) rfl rfl rfl rfl HZ.out Tb.zero_sz sT ?_))
  have HV := Lib.hid ((HZ.out.setRow T).var sT)
  exact bodyPost_ret (v := .tuple #[.agg ⟨T.list⟩, .int .i64 142]) (results_cell_tmp Try.results26 rfl rfl HV.out) rfl ⟨rfl, below_setRow HW.out _ _ (by omega)⟩

set_option maxHeartbeats 2000000 in
theorem rg_move (T U : Tb) (hok : T.Ok) (sU : U.Sz) (D : Dc) (q : Nat) (hq : D.node = (q : Int)) (hq12 : q < 12) (hm : T.m q = true) (hr : rightB D.f D.z = true) (hz0 : ¬ D.z = 0) (ha : allB T D.by_ D.f (np D.f D.z) = true) (hb : ¬ D.by_ = D.node) (hk : D.kind = 2) : Ret 26 #[T.v, U.v, D.v] (.returned (.tuple #[.agg ⟨(mvK false (q : Int) D.f U (np D.f D.z)).list⟩, .int .i64 0])) := by
  intro w
  have hz := zero_run
  have sT := hok.sz
  have HQ := Lib.hid hq
  have C1 := Lib.hid (rright_any D.f D.z)
  rw [hr] at C1
  have C2 := Lib.hid (rowns_any hok D.by_ D.f D.z)
  rw [ha] at C2
  have hby := by_node hr hz0 ha
  obtain ⟨x, hx, hx12⟩ : ∃ x : Nat, D.by_ = (x : Int) ∧ x < 12 := ⟨D.by_.toNat, by omega, by omega⟩
  have hxq : ¬ (x : Int) = (q : Int) := by rw [← hx, ← hq]; exact hb
  have HM := Lib.hid hm
  clear hm
  clear hr ha hb hby
  have HX := Lib.hid hx
  clear hx
  have HK := Lib.hid hk; clear hk
  clear hq
  obtain ⟨W, HWE, h1, h2, h3, h4, hW, hsz⟩ := four_boxes w T U D
  go_enter Try.func26, Try.ntmps26
  go_upto_region 1 with (fail)
  rw [← HWE]
  clear HWE
  have cf := h3.ff
  have cz := h3.zz
  have HT := Lib.hid h1
  have HU := Lib.hid h2
  have HD := Lib.hid h3
  have HZ := Lib.hid h4
  have HW := Lib.hid hW
  have HSZ := Lib.hid (Nat.le_of_eq hsz.symm)
  clear h1 h2 h3 h4 hW hsz
  go_wp2_with fail
  refine (C1.out _).mono ?_
  rintro e w1 ⟨rfl, l1⟩
  replace HT := Lib.hid (HT.out.keep l1)
  replace HU := Lib.hid (HU.out.keep l1)
  replace HD := Lib.hid (HD.out.keep l1)
  replace HZ := Lib.hid (HZ.out.keep l1)
  replace HW := Lib.hid (below_next HW.out l1)
  replace HSZ := Lib.hid (Nat.le_trans HSZ.out l1.size)
  clear cf cz l1
  have cn := HD.out.nn
  rw [HQ.out] at cn
  have cm := HT.out.mem sT hq12
  rw [HM.out] at cm
  have cz := HD.out.zz
  have cb := HD.out.bb
  have cf := HD.out.ff
  go_wp2_with (first
    | (refine load_tb (T := T) rfl rfl rfl HT.out sT ?_))
  refine (C2.out _).mono ?_
  rintro e w2 ⟨rfl, l2⟩
  replace HT := Lib.hid (HT.out.keep l2)
  replace HU := Lib.hid (HU.out.keep l2)
  replace HD := Lib.hid (HD.out.keep l2)
  replace HZ := Lib.hid (HZ.out.keep l2)
  replace HW := Lib.hid (below_next HW.out l2)
  replace HSZ := Lib.hid (Nat.le_trans HSZ.out l2.size)
  clear cz cb cf cn cm l2
  have cn := HD.out.nn
  have cb := HD.out.bb
  rw [HQ.out] at cn
  rw [HX.out] at cb
  go_upto_region 9 with (fail)
  clear cn cb
  have ck := HD.out.kk
  rw [HK.out] at ck
  replace ck := cell_regrown ck
  refine wp_region_quiet_below (by kernel_rfl) (by kernel_rfl) ?_
  repeat (go_big_quiet_step (fail))
  refine wpQuiet_nil ?_
  intro _ hw'
  obtain ⟨⟨dq, osq⟩, hw''⟩ := hw'
  subst hw''
  have lk := below_regrown w2 dq osq
  generalize grow (redrawn w2 dq) osq = w3 at *
  replace HT := Lib.hid (HT.out.keep lk)
  replace HU := Lib.hid (HU.out.keep lk)
  replace HD := Lib.hid (HD.out.keep lk)
  replace HZ := Lib.hid (HZ.out.keep lk)
  replace HW := Lib.hid (below_next HW.out lk)
  replace HSZ := Lib.hid (Nat.le_trans HSZ.out lk.size)
  clear lk
  have cf := HD.out.ff
  have cz := HD.out.zz
  go_wp2_with fail
  refine (rplaces_any D.f D.z _).mono ?_
  rintro e w4 ⟨v, rfl, hown, l4⟩
  obtain ⟨ao, cap, rfl, s1⟩ := made_placesG hown
  have HB9 := HSZ
  have S1 := Lib.hid s1
  replace HT := Lib.hid (HT.out.keep l4)
  replace HU := Lib.hid (HU.out.keep l4)
  replace HD := Lib.hid (HD.out.keep l4)
  replace HZ := Lib.hid (HZ.out.keep l4)
  replace HW := Lib.hid (below_next HW.out l4)
  replace HSZ := Lib.hid (Nat.le_trans HSZ.out l4.size)
  clear hown s1 l4 cf cz
  have hnp := np_le D.f D.z
  generalize hm9 : np D.f D.z = m at *
  have HM9 := Lib.hid hm9
  clear hm9
  have HE := Lib.hid (fun k => mvK_move (q : Int) D.f U k)
  have HSK := Lib.hid (fun k => mvK_sz false (q : Int) D.f U sU k)
  have HVR := Lib.hid (fun k => mvK_ver false (q : Int) D.f U k)
  go_wp2_with fail
  go_loopw [11] (fun i wr => ∃ k : Nat, k ≤ m ∧ i = .int .i64 (k : Int) ∧ Keep [w.heap.size + 1] w4 wr ∧ TbR wr (w.heap.size + 1) (mvK false (q : Int) D.f U k)) (fun i _ => m - (intOf i).toNat)
  case atStart => exact ⟨0, Nat.zero_le _, rfl, Keep.refl _ _, HU.out⟩
  case round =>
    obtain ⟨k, hk, rfl, hK, hT⟩ := hrel
    clear HU
    have szk := HSK.out k
    by_cases hlt : k < m
    · obtain ⟨g, rfl, hg0, hg, hc⟩ := (S1.out.kp hK (by intro x hx; simp at hx; have := HB9.out; omega)) k hlt
      have hgb : g ≠ w.heap.size + 1 := by have := HB9.out; omega
      replace hc : wr.cell? ⟨g, k, none⟩ = some (.int .i64 ((D.f + (k : Int)) % 64)) := hc
      have he := HE.out k
      obtain ⟨p, hp, hp64⟩ : ∃ p : Nat, (D.f + (k : Int)) % 64 = (p : Int) ∧ p < 64 := ⟨((D.f + (k : Int)) % 64).toNat, by omega, by omega⟩
      rw [hp] at hc he
      rw [Int.toNat_natCast] at he
      clear hp
      have h2 := HD.out.kp hK (by simp)
      have ck := h2.kk
      have cn := h2.nn
      rw [HK.out] at ck
      rw [HQ.out] at cn
      have H2 := Lib.hid h2
      clear h2 hg0
      have c1 := hT.own szk hp64
      have f1 := hT.fr (1 + p)
      have hs1 := (hT.setOwn szk hp64 (q : Int)).kp ((Keep.refl [] _).drew) (by simp)
      have hk1 := (Keep.setCell wr ⟨w.heap.size + 1, 1 + p, none⟩ (.int .i64 (q : Int))).drew
      have HS1 := Lib.hid hs1
      have HK1 := Lib.hid (hK.trans hk1)
      have hgl : g < wr.heap.size := hg
      have HD2 := Lib.hid (H2.out.kp hk1 (by simp))
      have hc2 := (hk1.cell (a := ⟨g, k, none⟩) hgl (by simpa using hgb)).trans hc
      have szk1 := szk.setOwn p (q : Int)
      have hv1 := HVR.out k
      have HV1 := Lib.hid hv1
      clear hs1 hk1 hT hK hv1 hg HE
      have HEE := Lib.hid he
      clear he
      go_upto_region 15 with (fail)
      go_region
      clear ck cn c1 f1 hc
      generalize (wr.setCell ⟨w.heap.size + 1, 1 + p, none⟩ (.int .i64 (q : Int))).drew = wy at *
      have ck := HD2.out.kk
      rw [HK.out] at ck
      have hs2 := HS1.out
      rw [← HEE.out] at hs2
      have HS2 := Lib.hid hs2
      have HK2 := HK1
      clear hs2 HS1 HK1
      go_wp2_with fail
      go_roundw
      case rel => exact ⟨k + 1, by omega, by go_num, HK2.out, HS2.out⟩
      case measure => simp [intOf]; omega
    · obtain rfl : m = k := by omega
      replace HZ := Lib.hid (HZ.out.kp hK (by simp))
      replace HW := Lib.hid (HW.out.trans (hK.below (B := w.heap.size) (by have := HSZ.out; omega) (by simp)))
      have HV := Lib.hid hT
      have sV := szk
      clear hK hT szk
      go_wp2_with (first
        | (refine load_tb (T := mvK false (q : Int) D.f U m) rfl rfl rfl HV.out sV ?_)
        | (refine store_tb (U := mvK false (q : Int) D.f U m) rfl rfl rfl rfl HZ.out Tb.zero_sz sV ?_))
      have HX9 := Lib.hid ((HZ.out.setRow (mvK false (q : Int) D.f U m)).var sV)
      exact bodyPost_ret (v := .tuple #[.agg ⟨(mvK false (q : Int) D.f U m).list⟩, .int .i64 0]) (results_cell_tmp Try.results26 rfl rfl HX9.out) rfl ⟨by rw [HM9.out], below_setRow HW.out _ _ (by omega)⟩

set_option maxHeartbeats 2000000 in
theorem rg_take (T U : Tb) (hok : T.Ok) (sU : U.Sz) (D : Dc) (q : Nat) (hq : D.node = (q : Int)) (hq12 : q < 12) (hm : T.m q = true) (hr : rightB D.f D.z = true) (hz0 : ¬ D.z = 0) (ha : allB T D.by_ D.f (np D.f D.z) = true) (hb : ¬ D.by_ = D.node) (hk : D.kind = 3) (hs : T.r D.by_.toNat = D.seen) : Ret 26 #[T.v, U.v, D.v] (.returned (.tuple #[.agg ⟨(mvK true (q : Int) D.f U (np D.f D.z)).list⟩, .int .i64 0])) := by
  intro w
  have hz := zero_run
  have sT := hok.sz
  have HQ := Lib.hid hq
  have C1 := Lib.hid (rright_any D.f D.z)
  rw [hr] at C1
  have C2 := Lib.hid (rowns_any hok D.by_ D.f D.z)
  rw [ha] at C2
  have hby := by_node hr hz0 ha
  obtain ⟨x, hx, hx12⟩ : ∃ x : Nat, D.by_ = (x : Int) ∧ x < 12 := ⟨D.by_.toNat, by omega, by omega⟩
  have hxq : ¬ (x : Int) = (q : Int) := by rw [← hx, ← hq]; exact hb
  have HM := Lib.hid hm
  clear hm
  clear hr ha hb hby
  have HX := Lib.hid hx
  clear hx
  have HK := Lib.hid hk; clear hk
  have HS := Lib.hid hs; clear hs
  clear hq
  obtain ⟨W, HWE, h1, h2, h3, h4, hW, hsz⟩ := four_boxes w T U D
  go_enter Try.func26, Try.ntmps26
  go_upto_region 1 with (fail)
  rw [← HWE]
  clear HWE
  have cf := h3.ff
  have cz := h3.zz
  have HT := Lib.hid h1
  have HU := Lib.hid h2
  have HD := Lib.hid h3
  have HZ := Lib.hid h4
  have HW := Lib.hid hW
  have HSZ := Lib.hid (Nat.le_of_eq hsz.symm)
  clear h1 h2 h3 h4 hW hsz
  go_wp2_with fail
  refine (C1.out _).mono ?_
  rintro e w1 ⟨rfl, l1⟩
  replace HT := Lib.hid (HT.out.keep l1)
  replace HU := Lib.hid (HU.out.keep l1)
  replace HD := Lib.hid (HD.out.keep l1)
  replace HZ := Lib.hid (HZ.out.keep l1)
  replace HW := Lib.hid (below_next HW.out l1)
  replace HSZ := Lib.hid (Nat.le_trans HSZ.out l1.size)
  clear cf cz l1
  have cn := HD.out.nn
  rw [HQ.out] at cn
  have cm := HT.out.mem sT hq12
  rw [HM.out] at cm
  have cz := HD.out.zz
  have cb := HD.out.bb
  have cf := HD.out.ff
  go_wp2_with (first
    | (refine load_tb (T := T) rfl rfl rfl HT.out sT ?_))
  refine (C2.out _).mono ?_
  rintro e w2 ⟨rfl, l2⟩
  replace HT := Lib.hid (HT.out.keep l2)
  replace HU := Lib.hid (HU.out.keep l2)
  replace HD := Lib.hid (HD.out.keep l2)
  replace HZ := Lib.hid (HZ.out.keep l2)
  replace HW := Lib.hid (below_next HW.out l2)
  replace HSZ := Lib.hid (Nat.le_trans HSZ.out l2.size)
  clear cz cb cf cn cm l2
  have cn := HD.out.nn
  have cb := HD.out.bb
  rw [HQ.out] at cn
  rw [HX.out] at cb
  go_upto_region 9 with (fail)
  clear cn cb
  have ck := HD.out.kk
  rw [HK.out] at ck
  replace ck := cell_regrown ck
  have cb := cell_regrown HD.out.bb
  rw [HX.out] at cb
  have cs := cell_regrown HD.out.ss
  have cr := cell_regrown (HT.out.ren sT hx12)
  have hsn : (T.r x != D.seen) = false := by have := HS.out; rw [HX.out] at this; simpa using this
  refine wp_region_quiet_below (by kernel_rfl) (by kernel_rfl) ?_
  repeat (go_big_quiet_step (fail))
  refine wpQuiet_nil ?_
  intro _ hw'
  obtain ⟨⟨dq, osq⟩, hw''⟩ := hw'
  subst hw''
  have lk := below_regrown w2 dq osq
  generalize grow (redrawn w2 dq) osq = w3 at *
  replace HT := Lib.hid (HT.out.keep lk)
  replace HU := Lib.hid (HU.out.keep lk)
  replace HD := Lib.hid (HD.out.keep lk)
  replace HZ := Lib.hid (HZ.out.keep lk)
  replace HW := Lib.hid (below_next HW.out lk)
  replace HSZ := Lib.hid (Nat.le_trans HSZ.out lk.size)
  clear lk
  have cf := HD.out.ff
  have cz := HD.out.zz
  go_wp2_with fail
  refine (rplaces_any D.f D.z _).mono ?_
  rintro e w4 ⟨v, rfl, hown, l4⟩
  obtain ⟨ao, cap, rfl, s1⟩ := made_placesG hown
  have HB9 := HSZ
  have S1 := Lib.hid s1
  replace HT := Lib.hid (HT.out.keep l4)
  replace HU := Lib.hid (HU.out.keep l4)
  replace HD := Lib.hid (HD.out.keep l4)
  replace HZ := Lib.hid (HZ.out.keep l4)
  replace HW := Lib.hid (below_next HW.out l4)
  replace HSZ := Lib.hid (Nat.le_trans HSZ.out l4.size)
  clear hown s1 l4 cf cz
  have hnp := np_le D.f D.z
  generalize hm9 : np D.f D.z = m at *
  have HM9 := Lib.hid hm9
  clear hm9
  have HE := Lib.hid (fun k => mvK_take (q : Int) D.f U k)
  have HSK := Lib.hid (fun k => mvK_sz true (q : Int) D.f U sU k)
  have HVR := Lib.hid (fun k => mvK_ver true (q : Int) D.f U k)
  go_wp2_with fail
  go_loopw [11] (fun i wr => ∃ k : Nat, k ≤ m ∧ i = .int .i64 (k : Int) ∧ Keep [w.heap.size + 1] w4 wr ∧ TbR wr (w.heap.size + 1) (mvK true (q : Int) D.f U k)) (fun i _ => m - (intOf i).toNat)
  case atStart => exact ⟨0, Nat.zero_le _, rfl, Keep.refl _ _, HU.out⟩
  case round =>
    obtain ⟨k, hk, rfl, hK, hT⟩ := hrel
    clear HU
    have szk := HSK.out k
    by_cases hlt : k < m
    · obtain ⟨g, rfl, hg0, hg, hc⟩ := (S1.out.kp hK (by intro x hx; simp at hx; have := HB9.out; omega)) k hlt
      have hgb : g ≠ w.heap.size + 1 := by have := HB9.out; omega
      replace hc : wr.cell? ⟨g, k, none⟩ = some (.int .i64 ((D.f + (k : Int)) % 64)) := hc
      have he := HE.out k
      obtain ⟨p, hp, hp64⟩ : ∃ p : Nat, (D.f + (k : Int)) % 64 = (p : Int) ∧ p < 64 := ⟨((D.f + (k : Int)) % 64).toNat, by omega, by omega⟩
      rw [hp] at hc he
      rw [Int.toNat_natCast] at he
      clear hp
      have h2 := HD.out.kp hK (by simp)
      have ck := h2.kk
      have cn := h2.nn
      rw [HK.out] at ck
      rw [HQ.out] at cn
      have H2 := Lib.hid h2
      clear h2 hg0
      have c1 := hT.own szk hp64
      have f1 := hT.fr (1 + p)
      have hs1 := (hT.setOwn szk hp64 (q : Int)).kp ((Keep.refl [] _).drew) (by simp)
      have hk1 := (Keep.setCell wr ⟨w.heap.size + 1, 1 + p, none⟩ (.int .i64 (q : Int))).drew
      have HS1 := Lib.hid hs1
      have HK1 := Lib.hid (hK.trans hk1)
      have hgl : g < wr.heap.size := hg
      have HD2 := Lib.hid (H2.out.kp hk1 (by simp))
      have hc2 := (hk1.cell (a := ⟨g, k, none⟩) hgl (by simpa using hgb)).trans hc
      have szk1 := szk.setOwn p (q : Int)
      have hv1 := HVR.out k
      have HV1 := Lib.hid hv1
      clear hs1 hk1 hT hK hv1 hg HE
      have HEE := Lib.hid he
      clear he
      go_upto_region 15 with (fail)
      go_region
      clear ck cn c1 f1 hc
      generalize (wr.setCell ⟨w.heap.size + 1, 1 + p, none⟩ (.int .i64 (q : Int))).drew = wy at *
      have ck := HD2.out.kk
      rw [HK.out] at ck
      have c0 := HS1.out.ver
      rw [show ((mvK true (↑q) D.f U k).setOwn p ↑q).ver = U.ver from HV1.out] at c0
      have c2 := HS1.out.inc szk1 hp64
      have f2 := HS1.out.fr (65 + p)
      have hs2 := (HS1.out.setInc szk1 hp64 U.ver).kp ((Keep.refl [] _).drew) (by simp)
      rw [← HEE.out] at hs2
      have HS2 := Lib.hid hs2
      have HK2 := Lib.hid (HK1.out.trans ((Keep.setCell wy ⟨w.heap.size + 1, 65 + p, none⟩ (.int .u32 U.ver)).drew))
      clear hs2 HS1 HK1
      go_upto_region 17 with (fail)
      go_region
      clear ck c0 c2 f2 hc2
      generalize (wy.setCell ⟨w.heap.size + 1, 65 + p, none⟩ (.int .u32 U.ver)).drew = wz at *
      go_wp2_with fail
      go_roundw
      case rel => exact ⟨k + 1, by omega, by go_num, HK2.out, HS2.out⟩
      case measure => simp [intOf]; omega
    · obtain rfl : m = k := by omega
      replace HZ := Lib.hid (HZ.out.kp hK (by simp))
      replace HW := Lib.hid (HW.out.trans (hK.below (B := w.heap.size) (by have := HSZ.out; omega) (by simp)))
      have HV := Lib.hid hT
      have sV := szk
      clear hK hT szk
      go_wp2_with (first
        | (refine load_tb (T := mvK true (q : Int) D.f U m) rfl rfl rfl HV.out sV ?_)
        | (refine store_tb (U := mvK true (q : Int) D.f U m) rfl rfl rfl rfl HZ.out Tb.zero_sz sV ?_))
      have HX9 := Lib.hid ((HZ.out.setRow (mvK true (q : Int) D.f U m)).var sV)
      exact bodyPost_ret (v := .tuple #[.agg ⟨(mvK true (q : Int) D.f U m).list⟩, .int .i64 0]) (results_cell_tmp Try.results26 rfl rfl HX9.out) rfl ⟨by rw [HM9.out], below_setRow HW.out _ _ (by omega)⟩

end Go.Proofs.Ytikeiocgnjdhbaa
