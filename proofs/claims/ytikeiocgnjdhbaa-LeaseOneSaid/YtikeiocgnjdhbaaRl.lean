/- lease.refusal (gen_rl.py writes it). -/
import Derived.Test.YtikeiocgnjdhbaaRf
namespace Go.Proofs.Ytikeiocgnjdhbaa
open Go.RowKit Go.Sort
set_option linter.unusedVariables false
set_option linter.unusedSimpArgs false
set_option maxRecDepth 100000

/-- has a node a place -/
def hasAny (T : Tb) (n : Int) : Bool := decide (0 < (ofL (ownL T n)).length)
/-- why a decree may not be: 0 if it may -/
def refuse (T : Tb) (D : Dc) : Int :=
  if D.kind < 1 ∨ 5 < D.kind ∨ isN D.node = false ∨ 2147483647 ≤ T.ver then 1
  else if T.m D.node.toNat = decide (D.kind = 4) then 143
  else if D.kind = 1 then (if D.cnt = T.r D.node.toNat + 1 then 0 else 144)
  else if D.kind = 5 then (if hasAny T D.node = true then 141 else 0)
  else if D.kind = 4 then 0
  else arcNo T D
set_option maxHeartbeats 1000000 in
theorem ref_low (T : Tb) (s : T.Sz) (D : Dc) (hk : D.kind < 1) : Ret 23 #[T.v, D.v] (.returned (.int .i64 (1))) := by
  intro w
  obtain ⟨h1, h2, hW⟩ := two_boxes w T D
  go_enter Try.func23, Try.ntmps23
  go_upto_region 1 with (fail)
  generalize (w.alloc (.cells ⟨T.list⟩ 29)).alloc (.cells D.cells 39) = W at *
  have ck := h2.kk
  have cn := h2.nn
  have cv := h1.ver
  have H1 := Lib.hid h1
  have H2 := Lib.hid h2
  have HW := Lib.hid hW
  clear h1 h2 hW
  go_wp2_with fail
  go_ret
  exact ⟨rfl, HW.out⟩

set_option maxHeartbeats 1000000 in
theorem ref_high (T : Tb) (s : T.Sz) (D : Dc) (hl : 1 ≤ D.kind) (hk : 5 < D.kind) : Ret 23 #[T.v, D.v] (.returned (.int .i64 (1))) := by
  intro w
  obtain ⟨h1, h2, hW⟩ := two_boxes w T D
  go_enter Try.func23, Try.ntmps23
  go_upto_region 1 with (fail)
  generalize (w.alloc (.cells ⟨T.list⟩ 29)).alloc (.cells D.cells 39) = W at *
  have ck := h2.kk
  have cn := h2.nn
  have cv := h1.ver
  have H1 := Lib.hid h1
  have H2 := Lib.hid h2
  have HW := Lib.hid hW
  clear h1 h2 hW
  go_wp2_with fail
  go_ret
  exact ⟨rfl, HW.out⟩

set_option maxHeartbeats 1000000 in
theorem ref_node (T : Tb) (s : T.Sz) (D : Dc) (hl : 1 ≤ D.kind) (hk : D.kind ≤ 5) (hn : isN D.node = false) : Ret 23 #[T.v, D.v] (.returned (.int .i64 (1))) := by
  intro w
  have C0 := Lib.hid (isnode_any D.node)
  rw [hn] at C0
  clear hn
  obtain ⟨h1, h2, hW⟩ := two_boxes w T D
  go_enter Try.func23, Try.ntmps23
  go_upto_region 1 with (fail)
  generalize (w.alloc (.cells ⟨T.list⟩ 29)).alloc (.cells D.cells 39) = W at *
  have ck := h2.kk
  have cn := h2.nn
  have cv := h1.ver
  have H1 := Lib.hid h1
  have H2 := Lib.hid h2
  have HW := Lib.hid hW
  clear h1 h2 hW
  go_wp2_with fail
  refine (C0.out _).mono ?_
  rintro e w1 ⟨rfl, rfl⟩
  go_wp2_with fail
  go_ret
  exact ⟨rfl, HW.out⟩

set_option maxHeartbeats 1000000 in
theorem ref_ver (T : Tb) (s : T.Sz) (D : Dc) (hl : 1 ≤ D.kind) (hk : D.kind ≤ 5) (hn : isN D.node = true) (hv : 2147483647 ≤ T.ver) : Ret 23 #[T.v, D.v] (.returned (.int .i64 (1))) := by
  intro w
  have C0 := Lib.hid (isnode_any D.node)
  rw [hn] at C0
  clear hn
  obtain ⟨h1, h2, hW⟩ := two_boxes w T D
  go_enter Try.func23, Try.ntmps23
  go_upto_region 1 with (fail)
  generalize (w.alloc (.cells ⟨T.list⟩ 29)).alloc (.cells D.cells 39) = W at *
  have ck := h2.kk
  have cn := h2.nn
  have cv := h1.ver
  have H1 := Lib.hid h1
  have H2 := Lib.hid h2
  have HW := Lib.hid hW
  clear h1 h2 hW
  go_wp2_with fail
  refine (C0.out _).mono ?_
  rintro e w1 ⟨rfl, rfl⟩
  go_wp2_with fail
  go_ret
  exact ⟨rfl, HW.out⟩

set_option maxHeartbeats 1000000 in
theorem ref_mem1 (T : Tb) (s : T.Sz) (D : Dc) (q : Nat) (hq : D.node = (q : Int)) (hq12 : q < 12) (hv : T.ver < 2147483647) (hk : D.kind = 1) (hm : T.m q = false) : Ret 23 #[T.v, D.v] (.returned (.int .i64 (143))) := by
  intro w
  have HQ := Lib.hid hq
  have HK := Lib.hid hk
  have C0 := Lib.hid (isnode_any (q : Int))
  rw [show isN (q : Int) = true from isN_spec.2 ⟨by omega, by omega⟩] at C0
  have HM := Lib.hid hm
  clear hq hk hm
  obtain ⟨h1, h2, hW⟩ := two_boxes w T D
  go_enter Try.func23, Try.ntmps23
  go_upto_region 1 with (fail)
  generalize (w.alloc (.cells ⟨T.list⟩ 29)).alloc (.cells D.cells 39) = W at *
  have ck := h2.kk
  have cn := h2.nn
  have cv := h1.ver
  have H1 := Lib.hid h1
  have H2 := Lib.hid h2
  have HW := Lib.hid hW
  clear h1 h2 hW
  rw [HK.out] at ck
  rw [HQ.out] at cn
  go_wp2_with fail
  refine (C0.out _).mono ?_
  rintro e w1 ⟨rfl, rfl⟩
  have cm := H1.out.mem s hq12
  rw [HM.out] at cm
  go_upto_region 3 with (fail)
  replace ck := cell_regrown ck
  replace cn := cell_regrown cn
  replace cm := cell_regrown cm
  refine wp_region_quiet_below (by kernel_rfl) (by kernel_rfl) ?_
  repeat (go_big_quiet_step (fail))
  refine wpQuiet_nil ?_
  intro _ hw'
  obtain ⟨⟨dq, osq⟩, hw''⟩ := hw'
  subst hw''
  have lk := below_regrown W dq osq
  generalize grow (redrawn W dq) osq = w2 at *
  replace H1 := Lib.hid (H1.out.keep lk)
  replace H2 := Lib.hid (H2.out.keep lk)
  replace HW := Lib.hid (below_next HW.out lk)
  clear ck cn cm cv lk
  have ck := H2.out.kk
  rw [HK.out] at ck
  go_wp2_with fail
  go_ret
  exact ⟨rfl, HW.out⟩

set_option maxHeartbeats 1000000 in
theorem ref_renew_same (T : Tb) (s : T.Sz) (D : Dc) (q : Nat) (hq : D.node = (q : Int)) (hq12 : q < 12) (hv : T.ver < 2147483647) (hk : D.kind = 1) (hm : T.m q = true) (hc : D.cnt = T.r q + 1) (c0 : 0 ≤ D.cnt) (c1 : D.cnt ≤ 4294967295) (r0 : 0 ≤ T.r q) (r1 : T.r q ≤ 4294967295) : Ret 23 #[T.v, D.v] (.returned (.int .i64 (0))) := by
  intro w
  have HQ := Lib.hid hq
  have HK := Lib.hid hk
  have C0 := Lib.hid (isnode_any (q : Int))
  rw [show isN (q : Int) = true from isN_spec.2 ⟨by omega, by omega⟩] at C0
  have HM := Lib.hid hm
  clear hq hk hm
  have HC := Lib.hid hc
  clear hc
  obtain ⟨h1, h2, hW⟩ := two_boxes w T D
  go_enter Try.func23, Try.ntmps23
  go_upto_region 1 with (fail)
  generalize (w.alloc (.cells ⟨T.list⟩ 29)).alloc (.cells D.cells 39) = W at *
  have ck := h2.kk
  have cn := h2.nn
  have cv := h1.ver
  have H1 := Lib.hid h1
  have H2 := Lib.hid h2
  have HW := Lib.hid hW
  clear h1 h2 hW
  rw [HK.out] at ck
  rw [HQ.out] at cn
  go_wp2_with fail
  refine (C0.out _).mono ?_
  rintro e w1 ⟨rfl, rfl⟩
  have cm := H1.out.mem s hq12
  rw [HM.out] at cm
  go_upto_region 3 with (fail)
  replace ck := cell_regrown ck
  replace cn := cell_regrown cn
  replace cm := cell_regrown cm
  refine wp_region_quiet_below (by kernel_rfl) (by kernel_rfl) ?_
  repeat (go_big_quiet_step (fail))
  refine wpQuiet_nil ?_
  intro _ hw'
  obtain ⟨⟨dq, osq⟩, hw''⟩ := hw'
  subst hw''
  have lk := below_regrown W dq osq
  generalize grow (redrawn W dq) osq = w2 at *
  replace H1 := Lib.hid (H1.out.keep lk)
  replace H2 := Lib.hid (H2.out.keep lk)
  replace HW := Lib.hid (below_next HW.out lk)
  clear ck cn cm cv lk
  have ck := H2.out.kk
  rw [HK.out] at ck
  have cn := H2.out.nn
  rw [HQ.out] at cn
  have cc := H2.out.cc
  have cr := H1.out.ren s hq12
  have wa : IntKind.u64.wrap D.cnt = D.cnt := by rw [IntWalk.u64_in _ (by omega)]
  have wb : IntKind.u64.wrap (T.r q) = T.r q := by rw [IntWalk.u64_in _ (by omega)]
  have wc : IntKind.u64.wrap (T.r q + 1) = T.r q + 1 := by rw [IntWalk.u64_in _ (by omega)]
  have hne : (D.cnt != T.r q + 1) = false := by have := HC.out; simpa using this
  go_upto_region 7 with (fail)
  replace cn := cell_regrown cn
  replace cc := cell_regrown cc
  replace cr := cell_regrown cr
  refine wp_region_quiet_below (by kernel_rfl) (by kernel_rfl) ?_
  repeat (go_big_quiet_step (fail))
  refine wpQuiet_nil ?_
  intro _ hw'
  obtain ⟨⟨dq, osq⟩, hw''⟩ := hw'
  subst hw''
  have lk := below_regrown w2 dq osq
  replace HW := Lib.hid (below_next HW.out lk)
  clear lk
  go_wp2_with fail
  go_ret
  exact ⟨rfl, HW.out⟩

set_option maxHeartbeats 1000000 in
theorem ref_renew_other (T : Tb) (s : T.Sz) (D : Dc) (q : Nat) (hq : D.node = (q : Int)) (hq12 : q < 12) (hv : T.ver < 2147483647) (hk : D.kind = 1) (hm : T.m q = true) (hc : ¬ D.cnt = T.r q + 1) (c0 : 0 ≤ D.cnt) (c1 : D.cnt ≤ 4294967295) (r0 : 0 ≤ T.r q) (r1 : T.r q ≤ 4294967295) : Ret 23 #[T.v, D.v] (.returned (.int .i64 (144))) := by
  intro w
  have HQ := Lib.hid hq
  have HK := Lib.hid hk
  have C0 := Lib.hid (isnode_any (q : Int))
  rw [show isN (q : Int) = true from isN_spec.2 ⟨by omega, by omega⟩] at C0
  have HM := Lib.hid hm
  clear hq hk hm
  have HC := Lib.hid hc
  clear hc
  obtain ⟨h1, h2, hW⟩ := two_boxes w T D
  go_enter Try.func23, Try.ntmps23
  go_upto_region 1 with (fail)
  generalize (w.alloc (.cells ⟨T.list⟩ 29)).alloc (.cells D.cells 39) = W at *
  have ck := h2.kk
  have cn := h2.nn
  have cv := h1.ver
  have H1 := Lib.hid h1
  have H2 := Lib.hid h2
  have HW := Lib.hid hW
  clear h1 h2 hW
  rw [HK.out] at ck
  rw [HQ.out] at cn
  go_wp2_with fail
  refine (C0.out _).mono ?_
  rintro e w1 ⟨rfl, rfl⟩
  have cm := H1.out.mem s hq12
  rw [HM.out] at cm
  go_upto_region 3 with (fail)
  replace ck := cell_regrown ck
  replace cn := cell_regrown cn
  replace cm := cell_regrown cm
  refine wp_region_quiet_below (by kernel_rfl) (by kernel_rfl) ?_
  repeat (go_big_quiet_step (fail))
  refine wpQuiet_nil ?_
  intro _ hw'
  obtain ⟨⟨dq, osq⟩, hw''⟩ := hw'
  subst hw''
  have lk := below_regrown W dq osq
  generalize grow (redrawn W dq) osq = w2 at *
  replace H1 := Lib.hid (H1.out.keep lk)
  replace H2 := Lib.hid (H2.out.keep lk)
  replace HW := Lib.hid (below_next HW.out lk)
  clear ck cn cm cv lk
  have ck := H2.out.kk
  rw [HK.out] at ck
  have cn := H2.out.nn
  rw [HQ.out] at cn
  have cc := H2.out.cc
  have cr := H1.out.ren s hq12
  have wa : IntKind.u64.wrap D.cnt = D.cnt := by rw [IntWalk.u64_in _ (by omega)]
  have wb : IntKind.u64.wrap (T.r q) = T.r q := by rw [IntWalk.u64_in _ (by omega)]
  have wc : IntKind.u64.wrap (T.r q + 1) = T.r q + 1 := by rw [IntWalk.u64_in _ (by omega)]
  have hne : (D.cnt != T.r q + 1) = true := by have := HC.out; simpa using this
  go_upto_region 7 with (fail)
  replace cn := cell_regrown cn
  replace cc := cell_regrown cc
  replace cr := cell_regrown cr
  refine wp_region_quiet_below (by kernel_rfl) (by kernel_rfl) ?_
  repeat (go_big_quiet_step (fail))
  refine wpQuiet_nil ?_
  intro _ hw'
  obtain ⟨⟨dq, osq⟩, hw''⟩ := hw'
  subst hw''
  have lk := below_regrown w2 dq osq
  replace HW := Lib.hid (below_next HW.out lk)
  clear lk
  go_wp2_with fail
  go_ret
  exact ⟨rfl, HW.out⟩

set_option maxHeartbeats 1000000 in
theorem ref_mem2 (T : Tb) (s : T.Sz) (D : Dc) (q : Nat) (hq : D.node = (q : Int)) (hq12 : q < 12) (hv : T.ver < 2147483647) (hk : D.kind = 2) (hm : T.m q = false) : Ret 23 #[T.v, D.v] (.returned (.int .i64 (143))) := by
  intro w
  have HQ := Lib.hid hq
  have HK := Lib.hid hk
  have C0 := Lib.hid (isnode_any (q : Int))
  rw [show isN (q : Int) = true from isN_spec.2 ⟨by omega, by omega⟩] at C0
  have HM := Lib.hid hm
  clear hq hk hm
  obtain ⟨h1, h2, hW⟩ := two_boxes w T D
  go_enter Try.func23, Try.ntmps23
  go_upto_region 1 with (fail)
  generalize (w.alloc (.cells ⟨T.list⟩ 29)).alloc (.cells D.cells 39) = W at *
  have ck := h2.kk
  have cn := h2.nn
  have cv := h1.ver
  have H1 := Lib.hid h1
  have H2 := Lib.hid h2
  have HW := Lib.hid hW
  clear h1 h2 hW
  rw [HK.out] at ck
  rw [HQ.out] at cn
  go_wp2_with fail
  refine (C0.out _).mono ?_
  rintro e w1 ⟨rfl, rfl⟩
  have cm := H1.out.mem s hq12
  rw [HM.out] at cm
  go_upto_region 3 with (fail)
  replace ck := cell_regrown ck
  replace cn := cell_regrown cn
  replace cm := cell_regrown cm
  refine wp_region_quiet_below (by kernel_rfl) (by kernel_rfl) ?_
  repeat (go_big_quiet_step (fail))
  refine wpQuiet_nil ?_
  intro _ hw'
  obtain ⟨⟨dq, osq⟩, hw''⟩ := hw'
  subst hw''
  have lk := below_regrown W dq osq
  generalize grow (redrawn W dq) osq = w2 at *
  replace H1 := Lib.hid (H1.out.keep lk)
  replace H2 := Lib.hid (H2.out.keep lk)
  replace HW := Lib.hid (below_next HW.out lk)
  clear ck cn cm cv lk
  have ck := H2.out.kk
  rw [HK.out] at ck
  go_wp2_with fail
  go_ret
  exact ⟨rfl, HW.out⟩

set_option maxHeartbeats 1000000 in
theorem ref_arc2 (T : Tb) (s : T.Sz) (D : Dc) (q : Nat) (hq : D.node = (q : Int)) (hq12 : q < 12) (hv : T.ver < 2147483647) (hk : D.kind = 2) (hm : T.m q = true) : Ret 23 #[T.v, D.v] (.returned (.int .i64 (arcNo T D))) := by
  intro w
  have HQ := Lib.hid hq
  have HK := Lib.hid hk
  have C0 := Lib.hid (isnode_any (q : Int))
  rw [show isN (q : Int) = true from isN_spec.2 ⟨by omega, by omega⟩] at C0
  have HM := Lib.hid hm
  clear hq hk hm
  have CA := Lib.hid (arc_any T s D)
  generalize hv9 : arcNo T D = y at *
  clear hv9
  obtain ⟨h1, h2, hW⟩ := two_boxes w T D
  go_enter Try.func23, Try.ntmps23
  go_upto_region 1 with (fail)
  generalize (w.alloc (.cells ⟨T.list⟩ 29)).alloc (.cells D.cells 39) = W at *
  have ck := h2.kk
  have cn := h2.nn
  have cv := h1.ver
  have H1 := Lib.hid h1
  have H2 := Lib.hid h2
  have HW := Lib.hid hW
  clear h1 h2 hW
  rw [HK.out] at ck
  rw [HQ.out] at cn
  go_wp2_with fail
  refine (C0.out _).mono ?_
  rintro e w1 ⟨rfl, rfl⟩
  have cm := H1.out.mem s hq12
  rw [HM.out] at cm
  go_upto_region 3 with (fail)
  replace ck := cell_regrown ck
  replace cn := cell_regrown cn
  replace cm := cell_regrown cm
  refine wp_region_quiet_below (by kernel_rfl) (by kernel_rfl) ?_
  repeat (go_big_quiet_step (fail))
  refine wpQuiet_nil ?_
  intro _ hw'
  obtain ⟨⟨dq, osq⟩, hw''⟩ := hw'
  subst hw''
  have lk := below_regrown W dq osq
  generalize grow (redrawn W dq) osq = w2 at *
  replace H1 := Lib.hid (H1.out.keep lk)
  replace H2 := Lib.hid (H2.out.keep lk)
  replace HW := Lib.hid (below_next HW.out lk)
  clear ck cn cm cv lk
  have ck := H2.out.kk
  rw [HK.out] at ck
  have cn := H2.out.nn
  have cb := H2.out.bb
  have cf := H2.out.ff
  have cz := H2.out.zz
  have cc := H2.out.cc
  have cs := H2.out.ss
  rw [HQ.out] at cn
  replace CA : Hid (Ret 34 #[T.v, .agg #[.int .i64 2, .int .i64 (q : Int), .int .i64 D.by_, .int .i64 D.f, .int .i64 D.z, .int .u32 D.cnt, .int .u32 D.seen]] (.returned (.int .i64 y))) := Lib.hid (by have := CA.out; unfold Dc.v Dc.cells at this; rw [HK.out, HQ.out] at this; exact this)
  go_wp2_with (first
    | (refine load_tb (T := T) rfl rfl rfl H1.out s ?_))
  refine (CA.out _).mono ?_
  rintro e w3 ⟨rfl, l3⟩
  replace HW := Lib.hid (below_next HW.out l3)
  clear l3
  go_wp2_with fail
  go_ret
  exact ⟨rfl, HW.out⟩

set_option maxHeartbeats 1000000 in
theorem ref_mem3 (T : Tb) (s : T.Sz) (D : Dc) (q : Nat) (hq : D.node = (q : Int)) (hq12 : q < 12) (hv : T.ver < 2147483647) (hk : D.kind = 3) (hm : T.m q = false) : Ret 23 #[T.v, D.v] (.returned (.int .i64 (143))) := by
  intro w
  have HQ := Lib.hid hq
  have HK := Lib.hid hk
  have C0 := Lib.hid (isnode_any (q : Int))
  rw [show isN (q : Int) = true from isN_spec.2 ⟨by omega, by omega⟩] at C0
  have HM := Lib.hid hm
  clear hq hk hm
  obtain ⟨h1, h2, hW⟩ := two_boxes w T D
  go_enter Try.func23, Try.ntmps23
  go_upto_region 1 with (fail)
  generalize (w.alloc (.cells ⟨T.list⟩ 29)).alloc (.cells D.cells 39) = W at *
  have ck := h2.kk
  have cn := h2.nn
  have cv := h1.ver
  have H1 := Lib.hid h1
  have H2 := Lib.hid h2
  have HW := Lib.hid hW
  clear h1 h2 hW
  rw [HK.out] at ck
  rw [HQ.out] at cn
  go_wp2_with fail
  refine (C0.out _).mono ?_
  rintro e w1 ⟨rfl, rfl⟩
  have cm := H1.out.mem s hq12
  rw [HM.out] at cm
  go_upto_region 3 with (fail)
  replace ck := cell_regrown ck
  replace cn := cell_regrown cn
  replace cm := cell_regrown cm
  refine wp_region_quiet_below (by kernel_rfl) (by kernel_rfl) ?_
  repeat (go_big_quiet_step (fail))
  refine wpQuiet_nil ?_
  intro _ hw'
  obtain ⟨⟨dq, osq⟩, hw''⟩ := hw'
  subst hw''
  have lk := below_regrown W dq osq
  generalize grow (redrawn W dq) osq = w2 at *
  replace H1 := Lib.hid (H1.out.keep lk)
  replace H2 := Lib.hid (H2.out.keep lk)
  replace HW := Lib.hid (below_next HW.out lk)
  clear ck cn cm cv lk
  have ck := H2.out.kk
  rw [HK.out] at ck
  go_wp2_with fail
  go_ret
  exact ⟨rfl, HW.out⟩

set_option maxHeartbeats 1000000 in
theorem ref_arc3 (T : Tb) (s : T.Sz) (D : Dc) (q : Nat) (hq : D.node = (q : Int)) (hq12 : q < 12) (hv : T.ver < 2147483647) (hk : D.kind = 3) (hm : T.m q = true) : Ret 23 #[T.v, D.v] (.returned (.int .i64 (arcNo T D))) := by
  intro w
  have HQ := Lib.hid hq
  have HK := Lib.hid hk
  have C0 := Lib.hid (isnode_any (q : Int))
  rw [show isN (q : Int) = true from isN_spec.2 ⟨by omega, by omega⟩] at C0
  have HM := Lib.hid hm
  clear hq hk hm
  have CA := Lib.hid (arc_any T s D)
  generalize hv9 : arcNo T D = y at *
  clear hv9
  obtain ⟨h1, h2, hW⟩ := two_boxes w T D
  go_enter Try.func23, Try.ntmps23
  go_upto_region 1 with (fail)
  generalize (w.alloc (.cells ⟨T.list⟩ 29)).alloc (.cells D.cells 39) = W at *
  have ck := h2.kk
  have cn := h2.nn
  have cv := h1.ver
  have H1 := Lib.hid h1
  have H2 := Lib.hid h2
  have HW := Lib.hid hW
  clear h1 h2 hW
  rw [HK.out] at ck
  rw [HQ.out] at cn
  go_wp2_with fail
  refine (C0.out _).mono ?_
  rintro e w1 ⟨rfl, rfl⟩
  have cm := H1.out.mem s hq12
  rw [HM.out] at cm
  go_upto_region 3 with (fail)
  replace ck := cell_regrown ck
  replace cn := cell_regrown cn
  replace cm := cell_regrown cm
  refine wp_region_quiet_below (by kernel_rfl) (by kernel_rfl) ?_
  repeat (go_big_quiet_step (fail))
  refine wpQuiet_nil ?_
  intro _ hw'
  obtain ⟨⟨dq, osq⟩, hw''⟩ := hw'
  subst hw''
  have lk := below_regrown W dq osq
  generalize grow (redrawn W dq) osq = w2 at *
  replace H1 := Lib.hid (H1.out.keep lk)
  replace H2 := Lib.hid (H2.out.keep lk)
  replace HW := Lib.hid (below_next HW.out lk)
  clear ck cn cm cv lk
  have ck := H2.out.kk
  rw [HK.out] at ck
  have cn := H2.out.nn
  have cb := H2.out.bb
  have cf := H2.out.ff
  have cz := H2.out.zz
  have cc := H2.out.cc
  have cs := H2.out.ss
  rw [HQ.out] at cn
  replace CA : Hid (Ret 34 #[T.v, .agg #[.int .i64 3, .int .i64 (q : Int), .int .i64 D.by_, .int .i64 D.f, .int .i64 D.z, .int .u32 D.cnt, .int .u32 D.seen]] (.returned (.int .i64 y))) := Lib.hid (by have := CA.out; unfold Dc.v Dc.cells at this; rw [HK.out, HQ.out] at this; exact this)
  go_wp2_with (first
    | (refine load_tb (T := T) rfl rfl rfl H1.out s ?_))
  refine (CA.out _).mono ?_
  rintro e w3 ⟨rfl, l3⟩
  replace HW := Lib.hid (below_next HW.out l3)
  clear l3
  go_wp2_with fail
  go_ret
  exact ⟨rfl, HW.out⟩

set_option maxHeartbeats 1000000 in
theorem ref_mem4 (T : Tb) (s : T.Sz) (D : Dc) (q : Nat) (hq : D.node = (q : Int)) (hq12 : q < 12) (hv : T.ver < 2147483647) (hk : D.kind = 4) (hm : T.m q = true) : Ret 23 #[T.v, D.v] (.returned (.int .i64 (143))) := by
  intro w
  have HQ := Lib.hid hq
  have HK := Lib.hid hk
  have C0 := Lib.hid (isnode_any (q : Int))
  rw [show isN (q : Int) = true from isN_spec.2 ⟨by omega, by omega⟩] at C0
  have HM := Lib.hid hm
  clear hq hk hm
  obtain ⟨h1, h2, hW⟩ := two_boxes w T D
  go_enter Try.func23, Try.ntmps23
  go_upto_region 1 with (fail)
  generalize (w.alloc (.cells ⟨T.list⟩ 29)).alloc (.cells D.cells 39) = W at *
  have ck := h2.kk
  have cn := h2.nn
  have cv := h1.ver
  have H1 := Lib.hid h1
  have H2 := Lib.hid h2
  have HW := Lib.hid hW
  clear h1 h2 hW
  rw [HK.out] at ck
  rw [HQ.out] at cn
  go_wp2_with fail
  refine (C0.out _).mono ?_
  rintro e w1 ⟨rfl, rfl⟩
  have cm := H1.out.mem s hq12
  rw [HM.out] at cm
  go_upto_region 3 with (fail)
  replace ck := cell_regrown ck
  replace cn := cell_regrown cn
  replace cm := cell_regrown cm
  refine wp_region_quiet_below (by kernel_rfl) (by kernel_rfl) ?_
  repeat (go_big_quiet_step (fail))
  refine wpQuiet_nil ?_
  intro _ hw'
  obtain ⟨⟨dq, osq⟩, hw''⟩ := hw'
  subst hw''
  have lk := below_regrown W dq osq
  generalize grow (redrawn W dq) osq = w2 at *
  replace H1 := Lib.hid (H1.out.keep lk)
  replace H2 := Lib.hid (H2.out.keep lk)
  replace HW := Lib.hid (below_next HW.out lk)
  clear ck cn cm cv lk
  have ck := H2.out.kk
  rw [HK.out] at ck
  go_wp2_with fail
  go_ret
  exact ⟨rfl, HW.out⟩

set_option maxHeartbeats 1000000 in
theorem ref_join (T : Tb) (s : T.Sz) (D : Dc) (q : Nat) (hq : D.node = (q : Int)) (hq12 : q < 12) (hv : T.ver < 2147483647) (hk : D.kind = 4) (hm : T.m q = false) : Ret 23 #[T.v, D.v] (.returned (.int .i64 (0))) := by
  intro w
  have HQ := Lib.hid hq
  have HK := Lib.hid hk
  have C0 := Lib.hid (isnode_any (q : Int))
  rw [show isN (q : Int) = true from isN_spec.2 ⟨by omega, by omega⟩] at C0
  have HM := Lib.hid hm
  clear hq hk hm
  obtain ⟨h1, h2, hW⟩ := two_boxes w T D
  go_enter Try.func23, Try.ntmps23
  go_upto_region 1 with (fail)
  generalize (w.alloc (.cells ⟨T.list⟩ 29)).alloc (.cells D.cells 39) = W at *
  have ck := h2.kk
  have cn := h2.nn
  have cv := h1.ver
  have H1 := Lib.hid h1
  have H2 := Lib.hid h2
  have HW := Lib.hid hW
  clear h1 h2 hW
  rw [HK.out] at ck
  rw [HQ.out] at cn
  go_wp2_with fail
  refine (C0.out _).mono ?_
  rintro e w1 ⟨rfl, rfl⟩
  have cm := H1.out.mem s hq12
  rw [HM.out] at cm
  go_upto_region 3 with (fail)
  replace ck := cell_regrown ck
  replace cn := cell_regrown cn
  replace cm := cell_regrown cm
  refine wp_region_quiet_below (by kernel_rfl) (by kernel_rfl) ?_
  repeat (go_big_quiet_step (fail))
  refine wpQuiet_nil ?_
  intro _ hw'
  obtain ⟨⟨dq, osq⟩, hw''⟩ := hw'
  subst hw''
  have lk := below_regrown W dq osq
  generalize grow (redrawn W dq) osq = w2 at *
  replace H1 := Lib.hid (H1.out.keep lk)
  replace H2 := Lib.hid (H2.out.keep lk)
  replace HW := Lib.hid (below_next HW.out lk)
  clear ck cn cm cv lk
  have ck := H2.out.kk
  rw [HK.out] at ck
  go_wp2_with fail
  go_ret
  exact ⟨rfl, HW.out⟩

set_option maxHeartbeats 1000000 in
theorem ref_mem5 (T : Tb) (s : T.Sz) (D : Dc) (q : Nat) (hq : D.node = (q : Int)) (hq12 : q < 12) (hv : T.ver < 2147483647) (hk : D.kind = 5) (hm : T.m q = false) : Ret 23 #[T.v, D.v] (.returned (.int .i64 (143))) := by
  intro w
  have HQ := Lib.hid hq
  have HK := Lib.hid hk
  have C0 := Lib.hid (isnode_any (q : Int))
  rw [show isN (q : Int) = true from isN_spec.2 ⟨by omega, by omega⟩] at C0
  have HM := Lib.hid hm
  clear hq hk hm
  obtain ⟨h1, h2, hW⟩ := two_boxes w T D
  go_enter Try.func23, Try.ntmps23
  go_upto_region 1 with (fail)
  generalize (w.alloc (.cells ⟨T.list⟩ 29)).alloc (.cells D.cells 39) = W at *
  have ck := h2.kk
  have cn := h2.nn
  have cv := h1.ver
  have H1 := Lib.hid h1
  have H2 := Lib.hid h2
  have HW := Lib.hid hW
  clear h1 h2 hW
  rw [HK.out] at ck
  rw [HQ.out] at cn
  go_wp2_with fail
  refine (C0.out _).mono ?_
  rintro e w1 ⟨rfl, rfl⟩
  have cm := H1.out.mem s hq12
  rw [HM.out] at cm
  go_upto_region 3 with (fail)
  replace ck := cell_regrown ck
  replace cn := cell_regrown cn
  replace cm := cell_regrown cm
  refine wp_region_quiet_below (by kernel_rfl) (by kernel_rfl) ?_
  repeat (go_big_quiet_step (fail))
  refine wpQuiet_nil ?_
  intro _ hw'
  obtain ⟨⟨dq, osq⟩, hw''⟩ := hw'
  subst hw''
  have lk := below_regrown W dq osq
  generalize grow (redrawn W dq) osq = w2 at *
  replace H1 := Lib.hid (H1.out.keep lk)
  replace H2 := Lib.hid (H2.out.keep lk)
  replace HW := Lib.hid (below_next HW.out lk)
  clear ck cn cm cv lk
  have ck := H2.out.kk
  rw [HK.out] at ck
  go_wp2_with fail
  go_ret
  exact ⟨rfl, HW.out⟩

set_option maxHeartbeats 1000000 in
theorem ref_leave_yes (T : Tb) (s : T.Sz) (D : Dc) (q : Nat) (hq : D.node = (q : Int)) (hq12 : q < 12) (hv : T.ver < 2147483647) (hk : D.kind = 5) (hm : T.m q = true) (ha : hasAny T D.node = true) : Ret 23 #[T.v, D.v] (.returned (.int .i64 (141))) := by
  intro w
  have HQ := Lib.hid hq
  have HK := Lib.hid hk
  have C0 := Lib.hid (isnode_any (q : Int))
  rw [show isN (q : Int) = true from isN_spec.2 ⟨by omega, by omega⟩] at C0
  have HM := Lib.hid hm
  clear hq hk hm
  rw [HQ.out] at ha
  have HA := Lib.hid ha
  clear ha
  obtain ⟨h1, h2, hW⟩ := two_boxes w T D
  go_enter Try.func23, Try.ntmps23
  go_upto_region 1 with (fail)
  generalize (w.alloc (.cells ⟨T.list⟩ 29)).alloc (.cells D.cells 39) = W at *
  have ck := h2.kk
  have cn := h2.nn
  have cv := h1.ver
  have H1 := Lib.hid h1
  have H2 := Lib.hid h2
  have HW := Lib.hid hW
  clear h1 h2 hW
  rw [HK.out] at ck
  rw [HQ.out] at cn
  go_wp2_with fail
  refine (C0.out _).mono ?_
  rintro e w1 ⟨rfl, rfl⟩
  have cm := H1.out.mem s hq12
  rw [HM.out] at cm
  go_upto_region 3 with (fail)
  replace ck := cell_regrown ck
  replace cn := cell_regrown cn
  replace cm := cell_regrown cm
  refine wp_region_quiet_below (by kernel_rfl) (by kernel_rfl) ?_
  repeat (go_big_quiet_step (fail))
  refine wpQuiet_nil ?_
  intro _ hw'
  obtain ⟨⟨dq, osq⟩, hw''⟩ := hw'
  subst hw''
  have lk := below_regrown W dq osq
  generalize grow (redrawn W dq) osq = w2 at *
  replace H1 := Lib.hid (H1.out.keep lk)
  replace H2 := Lib.hid (H2.out.keep lk)
  replace HW := Lib.hid (below_next HW.out lk)
  clear ck cn cm cv lk
  have ck := H2.out.kk
  rw [HK.out] at ck
  have cn := H2.out.nn
  rw [HQ.out] at cn
  go_wp2_with (first
    | (refine load_tb (T := T) rfl rfl rfl H1.out s ?_))
  refine (owned_any T s (q : Int) _).mono ?_
  rintro e w3 ⟨v, rfl, hown, l3⟩
  obtain ⟨ao, cap, rfl⟩ := own_form hown
  have hlen : 0 < (ofL (ownL T (q : Int))).length := by
    have := HA.out
    simp [hasAny] at this
    omega
  have hl64 := ofL_length (ownL T (q : Int))
  generalize (ofL (ownL T (q : Int))).length = m at *
  
  replace HW := Lib.hid (below_next HW.out l3)
  clear l3 hown
  go_wp2_with fail
  go_ret
  exact ⟨rfl, HW.out⟩

set_option maxHeartbeats 1000000 in
theorem ref_leave_not (T : Tb) (s : T.Sz) (D : Dc) (q : Nat) (hq : D.node = (q : Int)) (hq12 : q < 12) (hv : T.ver < 2147483647) (hk : D.kind = 5) (hm : T.m q = true) (ha : hasAny T D.node = false) : Ret 23 #[T.v, D.v] (.returned (.int .i64 (0))) := by
  intro w
  have HQ := Lib.hid hq
  have HK := Lib.hid hk
  have C0 := Lib.hid (isnode_any (q : Int))
  rw [show isN (q : Int) = true from isN_spec.2 ⟨by omega, by omega⟩] at C0
  have HM := Lib.hid hm
  clear hq hk hm
  rw [HQ.out] at ha
  have HA := Lib.hid ha
  clear ha
  obtain ⟨h1, h2, hW⟩ := two_boxes w T D
  go_enter Try.func23, Try.ntmps23
  go_upto_region 1 with (fail)
  generalize (w.alloc (.cells ⟨T.list⟩ 29)).alloc (.cells D.cells 39) = W at *
  have ck := h2.kk
  have cn := h2.nn
  have cv := h1.ver
  have H1 := Lib.hid h1
  have H2 := Lib.hid h2
  have HW := Lib.hid hW
  clear h1 h2 hW
  rw [HK.out] at ck
  rw [HQ.out] at cn
  go_wp2_with fail
  refine (C0.out _).mono ?_
  rintro e w1 ⟨rfl, rfl⟩
  have cm := H1.out.mem s hq12
  rw [HM.out] at cm
  go_upto_region 3 with (fail)
  replace ck := cell_regrown ck
  replace cn := cell_regrown cn
  replace cm := cell_regrown cm
  refine wp_region_quiet_below (by kernel_rfl) (by kernel_rfl) ?_
  repeat (go_big_quiet_step (fail))
  refine wpQuiet_nil ?_
  intro _ hw'
  obtain ⟨⟨dq, osq⟩, hw''⟩ := hw'
  subst hw''
  have lk := below_regrown W dq osq
  generalize grow (redrawn W dq) osq = w2 at *
  replace H1 := Lib.hid (H1.out.keep lk)
  replace H2 := Lib.hid (H2.out.keep lk)
  replace HW := Lib.hid (below_next HW.out lk)
  clear ck cn cm cv lk
  have ck := H2.out.kk
  rw [HK.out] at ck
  have cn := H2.out.nn
  rw [HQ.out] at cn
  go_wp2_with (first
    | (refine load_tb (T := T) rfl rfl rfl H1.out s ?_))
  refine (owned_any T s (q : Int) _).mono ?_
  rintro e w3 ⟨v, rfl, hown, l3⟩
  obtain ⟨ao, cap, rfl⟩ := own_form hown
  have hlen : (ofL (ownL T (q : Int))).length = 0 := by
    have := HA.out
    simp [hasAny] at this
    simpa using this
  have hl64 := ofL_length (ownL T (q : Int))
  generalize (ofL (ownL T (q : Int))).length = m at *
  subst hlen
  replace HW := Lib.hid (below_next HW.out l3)
  clear l3 hown
  go_wp2_with fail
  go_ret
  exact ⟨rfl, HW.out⟩

theorem refuse_any (T : Tb) (s : T.Sz) (D : Dc) (hr : ∀ n, n < 12 → 0 ≤ T.r n ∧ T.r n ≤ 4294967295) (c0 : 0 ≤ D.cnt) (c1 : D.cnt ≤ 4294967295) : Ret 23 #[T.v, D.v] (.returned (.int .i64 (refuse T D))) := by
  unfold refuse
  by_cases h1 : D.kind < 1
  · rw [if_pos (.inl h1)]; exact ref_low T s D h1
  · by_cases h2 : 5 < D.kind
    · rw [if_pos (.inr (.inl h2))]; exact ref_high T s D (by omega) h2
    · cases hn : isN D.node
      · rw [if_pos (.inr (.inr (.inl rfl)))]; exact ref_node T s D (by omega) (by omega) hn
      · by_cases hv : 2147483647 ≤ T.ver
        · rw [if_pos (.inr (.inr (.inr hv)))]; exact ref_ver T s D (by omega) (by omega) hn hv
        · rw [if_neg (by rintro (h | h | h | h); exact h1 h; exact h2 h; cases h; exact hv h)]
          have hn' := isN_spec.1 hn
          obtain ⟨q, hq, hq12⟩ : ∃ q : Nat, D.node = (q : Int) ∧ q < 12 := ⟨D.node.toNat, by omega, by omega⟩
          have hqt : D.node.toNat = q := by omega
          have hv' : T.ver < 2147483647 := by omega
          have hk : D.kind = 1 ∨ D.kind = 2 ∨ D.kind = 3 ∨ D.kind = 4 ∨ D.kind = 5 := by omega
          rw [hqt]
          rcases hk with hk | hk | hk | hk | hk
          · cases hm : T.m q
            · rw [if_pos (by rw [hk]; decide)]; exact ref_mem1 T s D q hq hq12 hv' hk hm
            · rw [if_neg (by rw [hk]; decide), if_pos hk]
              by_cases hc : D.cnt = T.r q + 1
              · rw [if_pos hc]; exact ref_renew_same T s D q hq hq12 hv' hk hm hc c0 c1 (hr q hq12).1 (hr q hq12).2
              · rw [if_neg hc]; exact ref_renew_other T s D q hq hq12 hv' hk hm hc c0 c1 (hr q hq12).1 (hr q hq12).2
          · cases hm : T.m q
            · rw [if_pos (by rw [hk]; decide)]; exact ref_mem2 T s D q hq hq12 hv' hk hm
            · rw [if_neg (by rw [hk]; decide), if_neg (by omega), if_neg (by omega), if_neg (by omega)]; exact ref_arc2 T s D q hq hq12 hv' hk hm
          · cases hm : T.m q
            · rw [if_pos (by rw [hk]; decide)]; exact ref_mem3 T s D q hq hq12 hv' hk hm
            · rw [if_neg (by rw [hk]; decide), if_neg (by omega), if_neg (by omega), if_neg (by omega)]; exact ref_arc3 T s D q hq hq12 hv' hk hm
          · cases hm : T.m q
            · rw [if_neg (by rw [hk]; decide), if_neg (by omega), if_neg (by omega), if_pos hk]; exact ref_join T s D q hq hq12 hv' hk hm
            · rw [if_pos (by rw [hk]; decide)]; exact ref_mem4 T s D q hq hq12 hv' hk hm
          · cases hm : T.m q
            · rw [if_pos (by rw [hk]; decide)]; exact ref_mem5 T s D q hq hq12 hv' hk hm
            · rw [if_neg (by rw [hk]; decide), if_neg (by omega), if_pos hk]
              cases ha : hasAny T D.node
              · rw [if_neg (by decide)]; exact ref_leave_not T s D q hq hq12 hv' hk hm ha
              · rw [if_pos rfl]; exact ref_leave_yes T s D q hq hq12 hv' hk hm ha
end Go.Proofs.Ytikeiocgnjdhbaa
