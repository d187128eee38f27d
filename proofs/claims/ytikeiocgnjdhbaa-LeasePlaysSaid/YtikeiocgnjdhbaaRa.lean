/- The document's Apply (gen_ra.py writes it). -/
import Derived.Test.YtikeiocgnjdhbaaRg
import Derived.Test.YtikeiocgnjdhbaaAy
namespace Go.Proofs.Ytikeiocgnjdhbaa
open Go.RowKit Go.Sort
set_option linter.unusedVariables false
set_option linter.unusedSimpArgs false
set_option maxRecDepth 100000

/-- why the document's given refuses -/
def gvNo (T : Tb) (D : Dc) (q : Nat) : Int := if T.m q = true then arcNo T D else 143
theorem rgiven_any (T U : Tb) (hok : T.Ok) (sU : U.Sz) (D : Dc) (q : Nat) (hq : D.node = (q : Int)) (hq12 : q < 12) (hk : D.kind = 2 ∨ D.kind = 3) :
    Ret 26 #[T.v, U.v, D.v] (.returned (.tuple #[.agg ⟨(if gvNo T D q = 0 then mvK (decide (D.kind = 3)) (q : Int) D.f U (np D.f D.z) else T).list⟩, .int .i64 (gvNo T D q)])) := by
  cases hm : T.m q
  · have e : gvNo T D q = 143 := by unfold gvNo; rw [hm]; rfl
    rw [e, if_neg (by omega)]; exact rg_mem T U hok sU D q hq hq12 hm
  · have e0 : gvNo T D q = arcNo T D := by unfold gvNo; rw [hm]; rfl
    rw [e0]
    cases hr : rightB D.f D.z
    · have e : arcNo T D = 1 := by unfold arcNo; rw [hr, if_pos (.inl rfl)]
      rw [e, if_neg (by omega)]; exact rg_no T U hok sU D q hq hq12 hm hr
    · by_cases hz : D.z = 0
      · have e : arcNo T D = 1 := by unfold arcNo; rw [if_pos (.inr hz)]
        rw [e, if_neg (by omega)]; exact rg_zero T U hok sU D q hq hq12 hm hr hz
      · have h1 : ¬ (rightB D.f D.z = false ∨ D.z = 0) := by rw [hr]; rintro (h | h); cases h; exact hz h
        cases ha : allB T D.by_ D.f (np D.f D.z)
        · have e : arcNo T D = 141 := by unfold arcNo; rw [if_neg h1, if_pos (.inr ha)]
          rw [e, if_neg (by omega)]; exact rg_owner T U hok sU D q hq hq12 hm hr hz ha
        · by_cases hb : D.by_ = D.node
          · have e : arcNo T D = 141 := by unfold arcNo; rw [if_neg h1, if_pos (.inl hb)]
            rw [e, if_neg (by omega)]; exact rg_self T U hok sU D q hq hq12 hm hr hz ha hb
          · have h2 : ¬ (D.by_ = D.node ∨ allB T D.by_ D.f (np D.f D.z) = false) := by rw [ha]; rintro (h | h); exact hb h; cases h
            rcases hk with hk | hk
            · have e : arcNo T D = 0 := by unfold arcNo; rw [if_neg h1, if_neg h2, if_neg (by omega)]
              rw [e, if_pos rfl, hk]; exact rg_move T U hok sU D q hq hq12 hm hr hz ha hb hk
            · by_cases hs : T.r D.by_.toNat = D.seen
              · have e : arcNo T D = 0 := by unfold arcNo; rw [if_neg h1, if_neg h2, if_neg (fun h => h.2 hs)]
                rw [e, if_pos rfl, hk]; exact rg_take T U hok sU D q hq hq12 hm hr hz ha hb hk hs
              · have e : arcNo T D = 142 := by unfold arcNo; rw [if_neg h1, if_neg h2, if_pos ⟨hk, hs⟩]
                rw [e, if_neg (by omega)]; exact rg_seen T U hok sU D q hq hq12 hm hr hz ha hb hk hs
set_option maxHeartbeats 2000000 in
theorem ra_low (T : Tb) (hok : T.Ok) (D : Dc) (hk : D.kind < 1) : Ret 14 #[T.v, D.v] (.returned (.tuple #[.agg ⟨(T).list⟩, .int .i64 1])) := by
  intro w
  have hz := zero_run
  have sT := hok.sz
  have hv0 := hok.v0
  obtain ⟨W, HWE, h1, h2, h3, hW, hsz⟩ := three_boxes w T D
  go_enter Try.func14, Try.ntmps14
  go_upto_region 1 with (fail)
  rw [← HWE]
  clear HWE
  have ck := h2.kk
  have cn := h2.nn
  have cv := h1.ver
  have HT := Lib.hid h1
  have HD := Lib.hid h2
  have HZ := Lib.hid h3
  have HW := Lib.hid hW
  have HSZ := Lib.hid (Nat.le_of_eq hsz.symm)
  clear h1 h2 h3 hW hsz
  go_wp2_with (first
    | (refine load_tb (T := T) rfl rfl rfl HT.out sT ?_)
    | (refine store_tb (U := T) rfl rfl rfl rfl HZ.out Tb.zero_sz sT ?_))
  have HV := Lib.hid ((HZ.out.setRow T).var sT)
  exact bodyPost_ret (v := .tuple #[.agg ⟨T.list⟩, .int .i64 1]) (results_cell_tmp Try.results14 rfl rfl HV.out) rfl ⟨rfl, below_setRow HW.out _ _ (by omega)⟩

set_option maxHeartbeats 2000000 in
theorem ra_high (T : Tb) (hok : T.Ok) (D : Dc) (hl : 1 ≤ D.kind) (hk : 5 < D.kind) : Ret 14 #[T.v, D.v] (.returned (.tuple #[.agg ⟨(T).list⟩, .int .i64 1])) := by
  intro w
  have hz := zero_run
  have sT := hok.sz
  have hv0 := hok.v0
  obtain ⟨W, HWE, h1, h2, h3, hW, hsz⟩ := three_boxes w T D
  go_enter Try.func14, Try.ntmps14
  go_upto_region 1 with (fail)
  rw [← HWE]
  clear HWE
  have ck := h2.kk
  have cn := h2.nn
  have cv := h1.ver
  have HT := Lib.hid h1
  have HD := Lib.hid h2
  have HZ := Lib.hid h3
  have HW := Lib.hid hW
  have HSZ := Lib.hid (Nat.le_of_eq hsz.symm)
  clear h1 h2 h3 hW hsz
  go_wp2_with (first
    | (refine load_tb (T := T) rfl rfl rfl HT.out sT ?_)
    | (refine store_tb (U := T) rfl rfl rfl rfl HZ.out Tb.zero_sz sT ?_))
  have HV := Lib.hid ((HZ.out.setRow T).var sT)
  exact bodyPost_ret (v := .tuple #[.agg ⟨T.list⟩, .int .i64 1]) (results_cell_tmp Try.results14 rfl rfl HV.out) rfl ⟨rfl, below_setRow HW.out _ _ (by omega)⟩

set_option maxHeartbeats 2000000 in
theorem ra_nlow (T : Tb) (hok : T.Ok) (D : Dc) (hl : 1 ≤ D.kind) (hk : D.kind ≤ 5) (hn : D.node < 0) : Ret 14 #[T.v, D.v] (.returned (.tuple #[.agg ⟨(T).list⟩, .int .i64 1])) := by
  intro w
  have hz := zero_run
  have sT := hok.sz
  have hv0 := hok.v0
  obtain ⟨W, HWE, h1, h2, h3, hW, hsz⟩ := three_boxes w T D
  go_enter Try.func14, Try.ntmps14
  go_upto_region 1 with (fail)
  rw [← HWE]
  clear HWE
  have ck := h2.kk
  have cn := h2.nn
  have cv := h1.ver
  have HT := Lib.hid h1
  have HD := Lib.hid h2
  have HZ := Lib.hid h3
  have HW := Lib.hid hW
  have HSZ := Lib.hid (Nat.le_of_eq hsz.symm)
  clear h1 h2 h3 hW hsz
  go_wp2_with (first
    | (refine load_tb (T := T) rfl rfl rfl HT.out sT ?_)
    | (refine store_tb (U := T) rfl rfl rfl rfl HZ.out Tb.zero_sz sT ?_))
  have HV := Lib.hid ((HZ.out.setRow T).var sT)
  exact bodyPost_ret (v := .tuple #[.agg ⟨T.list⟩, .int .i64 1]) (results_cell_tmp Try.results14 rfl rfl HV.out) rfl ⟨rfl, below_setRow HW.out _ _ (by omega)⟩

set_option maxHeartbeats 2000000 in
theorem ra_nhigh (T : Tb) (hok : T.Ok) (D : Dc) (hl : 1 ≤ D.kind) (hk : D.kind ≤ 5) (hn0 : 0 ≤ D.node) (hn : 12 ≤ D.node) : Ret 14 #[T.v, D.v] (.returned (.tuple #[.agg ⟨(T).list⟩, .int .i64 1])) := by
  intro w
  have hz := zero_run
  have sT := hok.sz
  have hv0 := hok.v0
  obtain ⟨W, HWE, h1, h2, h3, hW, hsz⟩ := three_boxes w T D
  go_enter Try.func14, Try.ntmps14
  go_upto_region 1 with (fail)
  rw [← HWE]
  clear HWE
  have ck := h2.kk
  have cn := h2.nn
  have cv := h1.ver
  have HT := Lib.hid h1
  have HD := Lib.hid h2
  have HZ := Lib.hid h3
  have HW := Lib.hid hW
  have HSZ := Lib.hid (Nat.le_of_eq hsz.symm)
  clear h1 h2 h3 hW hsz
  go_wp2_with (first
    | (refine load_tb (T := T) rfl rfl rfl HT.out sT ?_)
    | (refine store_tb (U := T) rfl rfl rfl rfl HZ.out Tb.zero_sz sT ?_))
  have HV := Lib.hid ((HZ.out.setRow T).var sT)
  exact bodyPost_ret (v := .tuple #[.agg ⟨T.list⟩, .int .i64 1]) (results_cell_tmp Try.results14 rfl rfl HV.out) rfl ⟨rfl, below_setRow HW.out _ _ (by omega)⟩

set_option maxHeartbeats 2000000 in
theorem ra_ver (T : Tb) (hok : T.Ok) (D : Dc) (hl : 1 ≤ D.kind) (hk : D.kind ≤ 5) (hn0 : 0 ≤ D.node) (hn : D.node < 12) (hv : 2147483647 ≤ T.ver) : Ret 14 #[T.v, D.v] (.returned (.tuple #[.agg ⟨(T).list⟩, .int .i64 1])) := by
  intro w
  have hz := zero_run
  have sT := hok.sz
  have hv0 := hok.v0
  obtain ⟨W, HWE, h1, h2, h3, hW, hsz⟩ := three_boxes w T D
  go_enter Try.func14, Try.ntmps14
  go_upto_region 1 with (fail)
  rw [← HWE]
  clear HWE
  have ck := h2.kk
  have cn := h2.nn
  have cv := h1.ver
  have HT := Lib.hid h1
  have HD := Lib.hid h2
  have HZ := Lib.hid h3
  have HW := Lib.hid hW
  have HSZ := Lib.hid (Nat.le_of_eq hsz.symm)
  clear h1 h2 h3 hW hsz
  go_wp2_with (first
    | (refine load_tb (T := T) rfl rfl rfl HT.out sT ?_)
    | (refine store_tb (U := T) rfl rfl rfl rfl HZ.out Tb.zero_sz sT ?_))
  have HV := Lib.hid ((HZ.out.setRow T).var sT)
  exact bodyPost_ret (v := .tuple #[.agg ⟨T.list⟩, .int .i64 1]) (results_cell_tmp Try.results14 rfl rfl HV.out) rfl ⟨rfl, below_setRow HW.out _ _ (by omega)⟩

set_option maxHeartbeats 2000000 in
theorem ra_mem1 (T : Tb) (hok : T.Ok) (D : Dc) (q : Nat) (hq : D.node = (q : Int)) (hq12 : q < 12) (hv : T.ver < 2147483647) (hk : D.kind = 1) (hm : T.m q = false) : Ret 14 #[T.v, D.v] (.returned (.tuple #[.agg ⟨(T).list⟩, .int .i64 143])) := by
  intro w
  have hz := zero_run
  have sT := hok.sz
  have hv0 := hok.v0
  have HQ := Lib.hid hq
  have HK := Lib.hid hk
  have HM := Lib.hid hm
  clear hq hk hm
  obtain ⟨W, HWE, h1, h2, h3, hW, hsz⟩ := three_boxes w T D
  go_enter Try.func14, Try.ntmps14
  go_upto_region 1 with (fail)
  rw [← HWE]
  clear HWE
  have ck := h2.kk
  have cn := h2.nn
  have cv := h1.ver
  have HT := Lib.hid h1
  have HD := Lib.hid h2
  have HZ := Lib.hid h3
  have HW := Lib.hid hW
  have HSZ := Lib.hid (Nat.le_of_eq hsz.symm)
  clear h1 h2 h3 hW hsz
  rw [HK.out] at ck
  rw [HQ.out] at cn
  obtain ⟨h5, l5, hlt5⟩ := laid_tb (w := W) (T := T) (U := Tb.zero)
  have H1 := Lib.hid (TbR.new W Tb.zero)
  have H5 := Lib.hid h5
  have L5 := Lib.hid l5
  clear h5 l5
  go_upto_region 4 with (first
    | (refine load_tb (T := T) rfl rfl rfl HT.out sT ?_)
    | (refine load_tb (T := T) rfl rfl rfl (HT.out.alloc _) sT ?_)
    | (refine store_tb (U := T) rfl rfl rfl rfl H1.out Tb.zero_sz sT ?_))
  clear H1 ck cn cv
  replace HT := Lib.hid (HT.out.keep L5.out)
  replace HD := Lib.hid (HD.out.keep L5.out)
  replace HZ := Lib.hid (HZ.out.keep L5.out)
  replace HW := Lib.hid (below_next HW.out L5.out)
  have hbO : w.heap.size + 3 ≤ W.heap.size := HSZ.out
  clear L5
  generalize (W.alloc (.cells ⟨Tb.zero.list⟩ 29)).setRow W.heap.size ⟨T.list⟩ = W2 at *
  generalize W.heap.size = bO at *
  clear HSZ
  have cv := H5.out.ver
  have fv := H5.out.fr 0
  have wv : IntKind.u32.wrap (T.ver + 1) = T.ver + 1 := by rw [IntWalk.u32_in _ (by omega)]
  have sU := sT.setVer (T.ver + 1)
  have hk4 := Keep.setCell W2 ⟨bO, 0, none⟩ (.int .u32 (T.ver + 1))
  have HU := Lib.hid (H5.out.setVer (T.ver + 1))
  replace HT := Lib.hid (HT.out.kp hk4 (by simp; omega))
  replace HD := Lib.hid (HD.out.kp hk4 (by simp; omega))
  replace HZ := Lib.hid (HZ.out.kp hk4 (by simp; omega))
  replace HW := Lib.hid (HW.out.trans (hk4.below (B := w.heap.size) (by omega) (by simp; omega)))
  have hlt6 : bO < (W2.setCell ⟨bO, 0, none⟩ (.int .u32 (T.ver + 1))).heap.size := by simpa [World.setCell] using hlt5
  clear hk4 H5 hlt5
  go_upto_region 5 with (fail)
  clear cv fv wv
  generalize W2.setCell ⟨bO, 0, none⟩ (.int .u32 (T.ver + 1)) = w2 at *
  have ck := HD.out.kk
  have cn := HD.out.nn
  rw [HK.out] at ck
  rw [HQ.out] at cn
  have cm := HT.out.mem sT hq12
  rw [HM.out] at cm
  go_wp2_with (first
    | (refine load_tb (T := T) rfl rfl rfl HT.out sT ?_)
    | (refine store_tb (U := T) rfl rfl rfl rfl HZ.out Tb.zero_sz sT ?_))
  have HV := Lib.hid ((HZ.out.setRow T).var sT)
  exact bodyPost_ret (v := .tuple #[.agg ⟨T.list⟩, .int .i64 143]) (results_cell_tmp Try.results14 rfl rfl HV.out) rfl ⟨rfl, below_setRow HW.out _ _ (by omega)⟩

set_option maxHeartbeats 2000000 in
theorem ra_renew_same (T : Tb) (hok : T.Ok) (D : Dc) (q : Nat) (hq : D.node = (q : Int)) (hq12 : q < 12) (hv : T.ver < 2147483647) (hk : D.kind = 1) (hm : T.m q = true) (hc : D.cnt = T.r q + 1) (c0 : 0 ≤ D.cnt) (c1 : D.cnt ≤ 4294967295) : Ret 14 #[T.v, D.v] (.returned (.tuple #[.agg ⟨((T.setVer (T.ver + 1)).setRen q D.cnt).list⟩, .int .i64 0])) := by
  intro w
  have hz := zero_run
  have sT := hok.sz
  have hv0 := hok.v0
  have HQ := Lib.hid hq
  have HK := Lib.hid hk
  have HM := Lib.hid hm
  have hr2 := hok.r q hq12
  have HC := Lib.hid hc; clear hc
  clear hq hk hm
  obtain ⟨W, HWE, h1, h2, h3, hW, hsz⟩ := three_boxes w T D
  go_enter Try.func14, Try.ntmps14
  go_upto_region 1 with (fail)
  rw [← HWE]
  clear HWE
  have ck := h2.kk
  have cn := h2.nn
  have cv := h1.ver
  have HT := Lib.hid h1
  have HD := Lib.hid h2
  have HZ := Lib.hid h3
  have HW := Lib.hid hW
  have HSZ := Lib.hid (Nat.le_of_eq hsz.symm)
  clear h1 h2 h3 hW hsz
  rw [HK.out] at ck
  rw [HQ.out] at cn
  obtain ⟨h5, l5, hlt5⟩ := laid_tb (w := W) (T := T) (U := Tb.zero)
  have H1 := Lib.hid (TbR.new W Tb.zero)
  have H5 := Lib.hid h5
  have L5 := Lib.hid l5
  clear h5 l5
  go_upto_region 4 with (first
    | (refine load_tb (T := T) rfl rfl rfl HT.out sT ?_)
    | (refine load_tb (T := T) rfl rfl rfl (HT.out.alloc _) sT ?_)
    | (refine store_tb (U := T) rfl rfl rfl rfl H1.out Tb.zero_sz sT ?_))
  clear H1 ck cn cv
  replace HT := Lib.hid (HT.out.keep L5.out)
  replace HD := Lib.hid (HD.out.keep L5.out)
  replace HZ := Lib.hid (HZ.out.keep L5.out)
  replace HW := Lib.hid (below_next HW.out L5.out)
  have hbO : w.heap.size + 3 ≤ W.heap.size := HSZ.out
  clear L5
  generalize (W.alloc (.cells ⟨Tb.zero.list⟩ 29)).setRow W.heap.size ⟨T.list⟩ = W2 at *
  generalize W.heap.size = bO at *
  clear HSZ
  have cv := H5.out.ver
  have fv := H5.out.fr 0
  have wv : IntKind.u32.wrap (T.ver + 1) = T.ver + 1 := by rw [IntWalk.u32_in _ (by omega)]
  have sU := sT.setVer (T.ver + 1)
  have hk4 := Keep.setCell W2 ⟨bO, 0, none⟩ (.int .u32 (T.ver + 1))
  have HU := Lib.hid (H5.out.setVer (T.ver + 1))
  replace HT := Lib.hid (HT.out.kp hk4 (by simp; omega))
  replace HD := Lib.hid (HD.out.kp hk4 (by simp; omega))
  replace HZ := Lib.hid (HZ.out.kp hk4 (by simp; omega))
  replace HW := Lib.hid (HW.out.trans (hk4.below (B := w.heap.size) (by omega) (by simp; omega)))
  have hlt6 : bO < (W2.setCell ⟨bO, 0, none⟩ (.int .u32 (T.ver + 1))).heap.size := by simpa [World.setCell] using hlt5
  clear hk4 H5 hlt5
  go_upto_region 5 with (fail)
  clear cv fv wv
  generalize W2.setCell ⟨bO, 0, none⟩ (.int .u32 (T.ver + 1)) = w2 at *
  have ck := HD.out.kk
  have cn := HD.out.nn
  rw [HK.out] at ck
  rw [HQ.out] at cn
  have cm := HT.out.mem sT hq12
  rw [HM.out] at cm
  have cc := HD.out.cc
  have cr := HT.out.ren sT hq12
  have wa : IntKind.u64.wrap D.cnt = D.cnt := by rw [IntWalk.u64_in _ (by omega)]
  have wb : IntKind.u64.wrap (T.r q) = T.r q := by rw [IntWalk.u64_in _ (by omega)]
  have wc : IntKind.u64.wrap (T.r q + 1) = T.r q + 1 := by rw [IntWalk.u64_in _ (by omega)]
  have hne : (D.cnt != T.r q + 1) = false := by have := HC.out; simpa using this
  go_upto_region 11 with (fail)
  replace cn := cell_regrown cn
  replace cc := cell_regrown cc
  replace cr := cell_regrown cr
  refine wp_region_quiet_below (by kernel_rfl) (by kernel_rfl) ?_
  repeat (go_big_quiet_step (fail))
  refine wpQuiet_nil ?_
  intro _ hw'
  obtain ⟨⟨dq, osq⟩, hw''⟩ := hw'
  subst hw''
  have lk := below_regrown w2 dq osq
  generalize grow (redrawn w2 dq) osq = w3 at *
  replace HT := Lib.hid (HT.out.keep lk)
  replace HD := Lib.hid (HD.out.keep lk)
  replace HZ := Lib.hid (HZ.out.keep lk)
  replace HU := Lib.hid (HU.out.keep lk)
  replace HW := Lib.hid (below_next HW.out lk)
  replace hlt6 := Nat.lt_of_lt_of_le hlt6 lk.size
  clear lk
  have cn := HD.out.nn
  rw [HQ.out] at cn
  have cc := HD.out.cc
  have c9 := HU.out.ren sU hq12
  have f9 := HU.out.fr (141 + q)
  have hV := HU.out.setRen sU hq12 D.cnt
  have sV := sU.setRen q D.cnt
  have hk9 := Keep.setCell w3 ⟨bO, 141 + q, none⟩ (.int .u32 D.cnt)
  replace HZ := Lib.hid (HZ.out.kp hk9 (by simp; omega))
  replace HW := Lib.hid (HW.out.trans (hk9.below (B := w.heap.size) (by omega) (by simp; omega)))
  have HV := Lib.hid hV
  clear hV hk9 HU
  go_wp2_with (first
    | (refine load_tb (T := (T.setVer (T.ver + 1)).setRen q D.cnt) rfl rfl rfl HV.out sV ?_)
    | (refine store_tb (U := (T.setVer (T.ver + 1)).setRen q D.cnt) rfl rfl rfl rfl HZ.out Tb.zero_sz sV ?_))
  have HX9 := Lib.hid ((HZ.out.setRow ((T.setVer (T.ver + 1)).setRen q D.cnt)).var sV)
  exact bodyPost_ret (v := .tuple #[.agg ⟨((T.setVer (T.ver + 1)).setRen q D.cnt).list⟩, .int .i64 0]) (results_cell_tmp Try.results14 rfl rfl HX9.out) rfl ⟨rfl, below_setRow HW.out _ _ (by omega)⟩

set_option maxHeartbeats 2000000 in
theorem ra_renew_other (T : Tb) (hok : T.Ok) (D : Dc) (q : Nat) (hq : D.node = (q : Int)) (hq12 : q < 12) (hv : T.ver < 2147483647) (hk : D.kind = 1) (hm : T.m q = true) (hc : ¬ D.cnt = T.r q + 1) (c0 : 0 ≤ D.cnt) (c1 : D.cnt ≤ 4294967295) : Ret 14 #[T.v, D.v] (.returned (.tuple #[.agg ⟨(T).list⟩, .int .i64 144])) := by
  intro w
  have hz := zero_run
  have sT := hok.sz
  have hv0 := hok.v0
  have HQ := Lib.hid hq
  have HK := Lib.hid hk
  have HM := Lib.hid hm
  have hr2 := hok.r q hq12
  have HC := Lib.hid hc; clear hc
  clear hq hk hm
  obtain ⟨W, HWE, h1, h2, h3, hW, hsz⟩ := three_boxes w T D
  go_enter Try.func14, Try.ntmps14
  go_upto_region 1 with (fail)
  rw [← HWE]
  clear HWE
  have ck := h2.kk
  have cn := h2.nn
  have cv := h1.ver
  have HT := Lib.hid h1
  have HD := Lib.hid h2
  have HZ := Lib.hid h3
  have HW := Lib.hid hW
  have HSZ := Lib.hid (Nat.le_of_eq hsz.symm)
  clear h1 h2 h3 hW hsz
  rw [HK.out] at ck
  rw [HQ.out] at cn
  obtain ⟨h5, l5, hlt5⟩ := laid_tb (w := W) (T := T) (U := Tb.zero)
  have H1 := Lib.hid (TbR.new W Tb.zero)
  have H5 := Lib.hid h5
  have L5 := Lib.hid l5
  clear h5 l5
  go_upto_region 4 with (first
    | (refine load_tb (T := T) rfl rfl rfl HT.out sT ?_)
    | (refine load_tb (T := T) rfl rfl rfl (HT.out.alloc _) sT ?_)
    | (refine store_tb (U := T) rfl rfl rfl rfl H1.out Tb.zero_sz sT ?_))
  clear H1 ck cn cv
  replace HT := Lib.hid (HT.out.keep L5.out)
  replace HD := Lib.hid (HD.out.keep L5.out)
  replace HZ := Lib.hid (HZ.out.keep L5.out)
  replace HW := Lib.hid (below_next HW.out L5.out)
  have hbO : w.heap.size + 3 ≤ W.heap.size := HSZ.out
  clear L5
  generalize (W.alloc (.cells ⟨Tb.zero.list⟩ 29)).setRow W.heap.size ⟨T.list⟩ = W2 at *
  generalize W.heap.size = bO at *
  clear HSZ
  have cv := H5.out.ver
  have fv := H5.out.fr 0
  have wv : IntKind.u32.wrap (T.ver + 1) = T.ver + 1 := by rw [IntWalk.u32_in _ (by omega)]
  have sU := sT.setVer (T.ver + 1)
  have hk4 := Keep.setCell W2 ⟨bO, 0, none⟩ (.int .u32 (T.ver + 1))
  have HU := Lib.hid (H5.out.setVer (T.ver + 1))
  replace HT := Lib.hid (HT.out.kp hk4 (by simp; omega))
  replace HD := Lib.hid (HD.out.kp hk4 (by simp; omega))
  replace HZ := Lib.hid (HZ.out.kp hk4 (by simp; omega))
  replace HW := Lib.hid (HW.out.trans (hk4.below (B := w.heap.size) (by omega) (by simp; omega)))
  have hlt6 : bO < (W2.setCell ⟨bO, 0, none⟩ (.int .u32 (T.ver + 1))).heap.size := by simpa [World.setCell] using hlt5
  clear hk4 H5 hlt5
  go_upto_region 5 with (fail)
  clear cv fv wv
  generalize W2.setCell ⟨bO, 0, none⟩ (.int .u32 (T.ver + 1)) = w2 at *
  have ck := HD.out.kk
  have cn := HD.out.nn
  rw [HK.out] at ck
  rw [HQ.out] at cn
  have cm := HT.out.mem sT hq12
  rw [HM.out] at cm
  have cc := HD.out.cc
  have cr := HT.out.ren sT hq12
  have wa : IntKind.u64.wrap D.cnt = D.cnt := by rw [IntWalk.u64_in _ (by omega)]
  have wb : IntKind.u64.wrap (T.r q) = T.r q := by rw [IntWalk.u64_in _ (by omega)]
  have wc : IntKind.u64.wrap (T.r q + 1) = T.r q + 1 := by rw [IntWalk.u64_in _ (by omega)]
  have hne : (D.cnt != T.r q + 1) = true := by have := HC.out; simpa using this
  go_upto_region 11 with (fail)
  replace cn := cell_regrown cn
  replace cc := cell_regrown cc
  replace cr := cell_regrown cr
  refine wp_region_quiet_below (by kernel_rfl) (by kernel_rfl) ?_
  repeat (go_big_quiet_step (fail))
  refine wpQuiet_nil ?_
  intro _ hw'
  obtain ⟨⟨dq, osq⟩, hw''⟩ := hw'
  subst hw''
  have lk := below_regrown w2 dq osq
  generalize grow (redrawn w2 dq) osq = w3 at *
  replace HT := Lib.hid (HT.out.keep lk)
  replace HD := Lib.hid (HD.out.keep lk)
  replace HZ := Lib.hid (HZ.out.keep lk)
  replace HU := Lib.hid (HU.out.keep lk)
  replace HW := Lib.hid (below_next HW.out lk)
  replace hlt6 := Nat.lt_of_lt_of_le hlt6 lk.size
  clear lk
  go_wp2_with (first
    | (refine load_tb (T := T) rfl rfl rfl HT.out sT ?_)
    | (refine store_tb (U := T) rfl rfl rfl rfl HZ.out Tb.zero_sz sT ?_))
  have HV := Lib.hid ((HZ.out.setRow T).var sT)
  exact bodyPost_ret (v := .tuple #[.agg ⟨T.list⟩, .int .i64 144]) (results_cell_tmp Try.results14 rfl rfl HV.out) rfl ⟨rfl, below_setRow HW.out _ _ (by omega)⟩

set_option maxHeartbeats 2000000 in
theorem ra_mem4 (T : Tb) (hok : T.Ok) (D : Dc) (q : Nat) (hq : D.node = (q : Int)) (hq12 : q < 12) (hv : T.ver < 2147483647) (hk : D.kind = 4) (hm : T.m q = true) : Ret 14 #[T.v, D.v] (.returned (.tuple #[.agg ⟨(T).list⟩, .int .i64 143])) := by
  intro w
  have hz := zero_run
  have sT := hok.sz
  have hv0 := hok.v0
  have HQ := Lib.hid hq
  have HK := Lib.hid hk
  have HM := Lib.hid hm
  clear hq hk hm
  obtain ⟨W, HWE, h1, h2, h3, hW, hsz⟩ := three_boxes w T D
  go_enter Try.func14, Try.ntmps14
  go_upto_region 1 with (fail)
  rw [← HWE]
  clear HWE
  have ck := h2.kk
  have cn := h2.nn
  have cv := h1.ver
  have HT := Lib.hid h1
  have HD := Lib.hid h2
  have HZ := Lib.hid h3
  have HW := Lib.hid hW
  have HSZ := Lib.hid (Nat.le_of_eq hsz.symm)
  clear h1 h2 h3 hW hsz
  rw [HK.out] at ck
  rw [HQ.out] at cn
  obtain ⟨h5, l5, hlt5⟩ := laid_tb (w := W) (T := T) (U := Tb.zero)
  have H1 := Lib.hid (TbR.new W Tb.zero)
  have H5 := Lib.hid h5
  have L5 := Lib.hid l5
  clear h5 l5
  go_upto_region 4 with (first
    | (refine load_tb (T := T) rfl rfl rfl HT.out sT ?_)
    | (refine load_tb (T := T) rfl rfl rfl (HT.out.alloc _) sT ?_)
    | (refine store_tb (U := T) rfl rfl rfl rfl H1.out Tb.zero_sz sT ?_))
  clear H1 ck cn cv
  replace HT := Lib.hid (HT.out.keep L5.out)
  replace HD := Lib.hid (HD.out.keep L5.out)
  replace HZ := Lib.hid (HZ.out.keep L5.out)
  replace HW := Lib.hid (below_next HW.out L5.out)
  have hbO : w.heap.size + 3 ≤ W.heap.size := HSZ.out
  clear L5
  generalize (W.alloc (.cells ⟨Tb.zero.list⟩ 29)).setRow W.heap.size ⟨T.list⟩ = W2 at *
  generalize W.heap.size = bO at *
  clear HSZ
  have cv := H5.out.ver
  have fv := H5.out.fr 0
  have wv : IntKind.u32.wrap (T.ver + 1) = T.ver + 1 := by rw [IntWalk.u32_in _ (by omega)]
  have sU := sT.setVer (T.ver + 1)
  have hk4 := Keep.setCell W2 ⟨bO, 0, none⟩ (.int .u32 (T.ver + 1))
  have HU := Lib.hid (H5.out.setVer (T.ver + 1))
  replace HT := Lib.hid (HT.out.kp hk4 (by simp; omega))
  replace HD := Lib.hid (HD.out.kp hk4 (by simp; omega))
  replace HZ := Lib.hid (HZ.out.kp hk4 (by simp; omega))
  replace HW := Lib.hid (HW.out.trans (hk4.below (B := w.heap.size) (by omega) (by simp; omega)))
  have hlt6 : bO < (W2.setCell ⟨bO, 0, none⟩ (.int .u32 (T.ver + 1))).heap.size := by simpa [World.setCell] using hlt5
  clear hk4 H5 hlt5
  go_upto_region 5 with (fail)
  clear cv fv wv
  generalize W2.setCell ⟨bO, 0, none⟩ (.int .u32 (T.ver + 1)) = w2 at *
  have ck := HD.out.kk
  have cn := HD.out.nn
  rw [HK.out] at ck
  rw [HQ.out] at cn
  have cm := HT.out.mem sT hq12
  rw [HM.out] at cm
  go_wp2_with (first
    | (refine load_tb (T := T) rfl rfl rfl HT.out sT ?_)
    | (refine store_tb (U := T) rfl rfl rfl rfl HZ.out Tb.zero_sz sT ?_))
  have HV := Lib.hid ((HZ.out.setRow T).var sT)
  exact bodyPost_ret (v := .tuple #[.agg ⟨T.list⟩, .int .i64 143]) (results_cell_tmp Try.results14 rfl rfl HV.out) rfl ⟨rfl, below_setRow HW.out _ _ (by omega)⟩

set_option maxHeartbeats 2000000 in
theorem ra_join (T : Tb) (hok : T.Ok) (D : Dc) (q : Nat) (hq : D.node = (q : Int)) (hq12 : q < 12) (hv : T.ver < 2147483647) (hk : D.kind = 4) (hm : T.m q = false) : Ret 14 #[T.v, D.v] (.returned (.tuple #[.agg ⟨(((T.setVer (T.ver + 1)).setMem q true).setRen q 0).list⟩, .int .i64 0])) := by
  intro w
  have hz := zero_run
  have sT := hok.sz
  have hv0 := hok.v0
  have HQ := Lib.hid hq
  have HK := Lib.hid hk
  have HM := Lib.hid hm
  clear hq hk hm
  obtain ⟨W, HWE, h1, h2, h3, hW, hsz⟩ := three_boxes w T D
  go_enter Try.func14, Try.ntmps14
  go_upto_region 1 with (fail)
  rw [← HWE]
  clear HWE
  have ck := h2.kk
  have cn := h2.nn
  have cv := h1.ver
  have HT := Lib.hid h1
  have HD := Lib.hid h2
  have HZ := Lib.hid h3
  have HW := Lib.hid hW
  have HSZ := Lib.hid (Nat.le_of_eq hsz.symm)
  clear h1 h2 h3 hW hsz
  rw [HK.out] at ck
  rw [HQ.out] at cn
  obtain ⟨h5, l5, hlt5⟩ := laid_tb (w := W) (T := T) (U := Tb.zero)
  have H1 := Lib.hid (TbR.new W Tb.zero)
  have H5 := Lib.hid h5
  have L5 := Lib.hid l5
  clear h5 l5
  go_upto_region 4 with (first
    | (refine load_tb (T := T) rfl rfl rfl HT.out sT ?_)
    | (refine load_tb (T := T) rfl rfl rfl (HT.out.alloc _) sT ?_)
    | (refine store_tb (U := T) rfl rfl rfl rfl H1.out Tb.zero_sz sT ?_))
  clear H1 ck cn cv
  replace HT := Lib.hid (HT.out.keep L5.out)
  replace HD := Lib.hid (HD.out.keep L5.out)
  replace HZ := Lib.hid (HZ.out.keep L5.out)
  replace HW := Lib.hid (below_next HW.out L5.out)
  have hbO : w.heap.size + 3 ≤ W.heap.size := HSZ.out
  clear L5
  generalize (W.alloc (.cells ⟨Tb.zero.list⟩ 29)).setRow W.heap.size ⟨T.list⟩ = W2 at *
  generalize W.heap.size = bO at *
  clear HSZ
  have cv := H5.out.ver
  have fv := H5.out.fr 0
  have wv : IntKind.u32.wrap (T.ver + 1) = T.ver + 1 := by rw [IntWalk.u32_in _ (by omega)]
  have sU := sT.setVer (T.ver + 1)
  have hk4 := Keep.setCell W2 ⟨bO, 0, none⟩ (.int .u32 (T.ver + 1))
  have HU := Lib.hid (H5.out.setVer (T.ver + 1))
  replace HT := Lib.hid (HT.out.kp hk4 (by simp; omega))
  replace HD := Lib.hid (HD.out.kp hk4 (by simp; omega))
  replace HZ := Lib.hid (HZ.out.kp hk4 (by simp; omega))
  replace HW := Lib.hid (HW.out.trans (hk4.below (B := w.heap.size) (by omega) (by simp; omega)))
  have hlt6 : bO < (W2.setCell ⟨bO, 0, none⟩ (.int .u32 (T.ver + 1))).heap.size := by simpa [World.setCell] using hlt5
  clear hk4 H5 hlt5
  go_upto_region 5 with (fail)
  clear cv fv wv
  generalize W2.setCell ⟨bO, 0, none⟩ (.int .u32 (T.ver + 1)) = w2 at *
  have ck := HD.out.kk
  have cn := HD.out.nn
  rw [HK.out] at ck
  rw [HQ.out] at cn
  have cm := HT.out.mem sT hq12
  rw [HM.out] at cm
  have c9 := HU.out.mem sU hq12
  have f9 := HU.out.fr (129 + q)
  have h9 := HU.out.setMem sU hq12 true
  have s9 := sU.setMem q true
  have k9 := Keep.setCell w2 ⟨bO, 129 + q, none⟩ (.bool true)
  have HD2 := Lib.hid (HD.out.kp k9 (by simp; omega))
  go_upto_region 18 with (fail)
  clear c9 f9 cn ck cm
  generalize w2.setCell ⟨bO, 129 + q, none⟩ (.bool true) = w3 at *
  have cn := HD2.out.nn
  rw [HQ.out] at cn
  have c9 := h9.ren s9 hq12
  have f9 := h9.fr (141 + q)
  have hV := h9.setRen s9 hq12 0
  have sV := s9.setRen q 0
  have k8 := k9.trans (Keep.setCell w3 ⟨bO, 141 + q, none⟩ (.int .u32 0))
  replace HZ := Lib.hid (HZ.out.kp k8 (by simp; omega))
  replace HW := Lib.hid (HW.out.trans (k8.below (B := w.heap.size) (by omega) (by simp; omega)))
  have HV := Lib.hid hV
  clear hV k8 k9 h9 HU
  go_wp2_with (first
    | (refine load_tb (T := ((T.setVer (T.ver + 1)).setMem q true).setRen q 0) rfl rfl rfl HV.out sV ?_)
    | (refine store_tb (U := ((T.setVer (T.ver + 1)).setMem q true).setRen q 0) rfl rfl rfl rfl HZ.out Tb.zero_sz sV ?_))
  have HX9 := Lib.hid ((HZ.out.setRow (((T.setVer (T.ver + 1)).setMem q true).setRen q 0)).var sV)
  exact bodyPost_ret (v := .tuple #[.agg ⟨(((T.setVer (T.ver + 1)).setMem q true).setRen q 0).list⟩, .int .i64 0]) (results_cell_tmp Try.results14 rfl rfl HX9.out) rfl ⟨rfl, below_setRow HW.out _ _ (by omega)⟩

set_option maxHeartbeats 2000000 in
theorem ra_mem5 (T : Tb) (hok : T.Ok) (D : Dc) (q : Nat) (hq : D.node = (q : Int)) (hq12 : q < 12) (hv : T.ver < 2147483647) (hk : D.kind = 5) (hm : T.m q = false) : Ret 14 #[T.v, D.v] (.returned (.tuple #[.agg ⟨(T).list⟩, .int .i64 143])) := by
  intro w
  have hz := zero_run
  have sT := hok.sz
  have hv0 := hok.v0
  have HQ := Lib.hid hq
  have HK := Lib.hid hk
  have HM := Lib.hid hm
  clear hq hk hm
  obtain ⟨W, HWE, h1, h2, h3, hW, hsz⟩ := three_boxes w T D
  go_enter Try.func14, Try.ntmps14
  go_upto_region 1 with (fail)
  rw [← HWE]
  clear HWE
  have ck := h2.kk
  have cn := h2.nn
  have cv := h1.ver
  have HT := Lib.hid h1
  have HD := Lib.hid h2
  have HZ := Lib.hid h3
  have HW := Lib.hid hW
  have HSZ := Lib.hid (Nat.le_of_eq hsz.symm)
  clear h1 h2 h3 hW hsz
  rw [HK.out] at ck
  rw [HQ.out] at cn
  obtain ⟨h5, l5, hlt5⟩ := laid_tb (w := W) (T := T) (U := Tb.zero)
  have H1 := Lib.hid (TbR.new W Tb.zero)
  have H5 := Lib.hid h5
  have L5 := Lib.hid l5
  clear h5 l5
  go_upto_region 4 with (first
    | (refine load_tb (T := T) rfl rfl rfl HT.out sT ?_)
    | (refine load_tb (T := T) rfl rfl rfl (HT.out.alloc _) sT ?_)
    | (refine store_tb (U := T) rfl rfl rfl rfl H1.out Tb.zero_sz sT ?_))
  clear H1 ck cn cv
  replace HT := Lib.hid (HT.out.keep L5.out)
  replace HD := Lib.hid (HD.out.keep L5.out)
  replace HZ := Lib.hid (HZ.out.keep L5.out)
  replace HW := Lib.hid (below_next HW.out L5.out)
  have hbO : w.heap.size + 3 ≤ W.heap.size := HSZ.out
  clear L5
  generalize (W.alloc (.cells ⟨Tb.zero.list⟩ 29)).setRow W.heap.size ⟨T.list⟩ = W2 at *
  generalize W.heap.size = bO at *
  clear HSZ
  have cv := H5.out.ver
  have fv := H5.out.fr 0
  have wv : IntKind.u32.wrap (T.ver + 1) = T.ver + 1 := by rw [IntWalk.u32_in _ (by omega)]
  have sU := sT.setVer (T.ver + 1)
  have hk4 := Keep.setCell W2 ⟨bO, 0, none⟩ (.int .u32 (T.ver + 1))
  have HU := Lib.hid (H5.out.setVer (T.ver + 1))
  replace HT := Lib.hid (HT.out.kp hk4 (by simp; omega))
  replace HD := Lib.hid (HD.out.kp hk4 (by simp; omega))
  replace HZ := Lib.hid (HZ.out.kp hk4 (by simp; omega))
  replace HW := Lib.hid (HW.out.trans (hk4.below (B := w.heap.size) (by omega) (by simp; omega)))
  have hlt6 : bO < (W2.setCell ⟨bO, 0, none⟩ (.int .u32 (T.ver + 1))).heap.size := by simpa [World.setCell] using hlt5
  clear hk4 H5 hlt5
  go_upto_region 5 with (fail)
  clear cv fv wv
  generalize W2.setCell ⟨bO, 0, none⟩ (.int .u32 (T.ver + 1)) = w2 at *
  have ck := HD.out.kk
  have cn := HD.out.nn
  rw [HK.out] at ck
  rw [HQ.out] at cn
  have cm := HT.out.mem sT hq12
  rw [HM.out] at cm
  go_wp2_with (first
    | (refine load_tb (T := T) rfl rfl rfl HT.out sT ?_)
    | (refine store_tb (U := T) rfl rfl rfl rfl HZ.out Tb.zero_sz sT ?_))
  have HV := Lib.hid ((HZ.out.setRow T).var sT)
  exact bodyPost_ret (v := .tuple #[.agg ⟨T.list⟩, .int .i64 143]) (results_cell_tmp Try.results14 rfl rfl HV.out) rfl ⟨rfl, below_setRow HW.out _ _ (by omega)⟩

set_option maxHeartbeats 2000000 in
theorem ra_leave_yes (T : Tb) (hok : T.Ok) (D : Dc) (q : Nat) (hq : D.node = (q : Int)) (hq12 : q < 12) (hv : T.ver < 2147483647) (hk : D.kind = 5) (hm : T.m q = true) (ha : hasAny T D.node = true) : Ret 14 #[T.v, D.v] (.returned (.tuple #[.agg ⟨(T).list⟩, .int .i64 141])) := by
  intro w
  have hz := zero_run
  have sT := hok.sz
  have hv0 := hok.v0
  have HQ := Lib.hid hq
  have HK := Lib.hid hk
  have HM := Lib.hid hm
  have CS := Lib.hid (rsome_any hok D.node)
  rw [ha, HQ.out] at CS
  clear ha
  clear hq hk hm
  obtain ⟨W, HWE, h1, h2, h3, hW, hsz⟩ := three_boxes w T D
  go_enter Try.func14, Try.ntmps14
  go_upto_region 1 with (fail)
  rw [← HWE]
  clear HWE
  have ck := h2.kk
  have cn := h2.nn
  have cv := h1.ver
  have HT := Lib.hid h1
  have HD := Lib.hid h2
  have HZ := Lib.hid h3
  have HW := Lib.hid hW
  have HSZ := Lib.hid (Nat.le_of_eq hsz.symm)
  clear h1 h2 h3 hW hsz
  rw [HK.out] at ck
  rw [HQ.out] at cn
  obtain ⟨h5, l5, hlt5⟩ := laid_tb (w := W) (T := T) (U := Tb.zero)
  have H1 := Lib.hid (TbR.new W Tb.zero)
  have H5 := Lib.hid h5
  have L5 := Lib.hid l5
  clear h5 l5
  go_upto_region 4 with (first
    | (refine load_tb (T := T) rfl rfl rfl HT.out sT ?_)
    | (refine load_tb (T := T) rfl rfl rfl (HT.out.alloc _) sT ?_)
    | (refine store_tb (U := T) rfl rfl rfl rfl H1.out Tb.zero_sz sT ?_))
  clear H1 ck cn cv
  replace HT := Lib.hid (HT.out.keep L5.out)
  replace HD := Lib.hid (HD.out.keep L5.out)
  replace HZ := Lib.hid (HZ.out.keep L5.out)
  replace HW := Lib.hid (below_next HW.out L5.out)
  have hbO : w.heap.size + 3 ≤ W.heap.size := HSZ.out
  clear L5
  generalize (W.alloc (.cells ⟨Tb.zero.list⟩ 29)).setRow W.heap.size ⟨T.list⟩ = W2 at *
  generalize W.heap.size = bO at *
  clear HSZ
  have cv := H5.out.ver
  have fv := H5.out.fr 0
  have wv : IntKind.u32.wrap (T.ver + 1) = T.ver + 1 := by rw [IntWalk.u32_in _ (by omega)]
  have sU := sT.setVer (T.ver + 1)
  have hk4 := Keep.setCell W2 ⟨bO, 0, none⟩ (.int .u32 (T.ver + 1))
  have HU := Lib.hid (H5.out.setVer (T.ver + 1))
  replace HT := Lib.hid (HT.out.kp hk4 (by simp; omega))
  replace HD := Lib.hid (HD.out.kp hk4 (by simp; omega))
  replace HZ := Lib.hid (HZ.out.kp hk4 (by simp; omega))
  replace HW := Lib.hid (HW.out.trans (hk4.below (B := w.heap.size) (by omega) (by simp; omega)))
  have hlt6 : bO < (W2.setCell ⟨bO, 0, none⟩ (.int .u32 (T.ver + 1))).heap.size := by simpa [World.setCell] using hlt5
  clear hk4 H5 hlt5
  go_upto_region 5 with (fail)
  clear cv fv wv
  generalize W2.setCell ⟨bO, 0, none⟩ (.int .u32 (T.ver + 1)) = w2 at *
  have ck := HD.out.kk
  have cn := HD.out.nn
  rw [HK.out] at ck
  rw [HQ.out] at cn
  have cm := HT.out.mem sT hq12
  rw [HM.out] at cm
  go_wp2_with (first
    | (refine load_tb (T := T) rfl rfl rfl HT.out sT ?_))
  refine (CS.out _).mono ?_
  rintro e w3 ⟨rfl, lk⟩
  replace HT := Lib.hid (HT.out.keep lk)
  replace HD := Lib.hid (HD.out.keep lk)
  replace HZ := Lib.hid (HZ.out.keep lk)
  replace HU := Lib.hid (HU.out.keep lk)
  replace HW := Lib.hid (below_next HW.out lk)
  replace hlt6 := Nat.lt_of_lt_of_le hlt6 lk.size
  clear lk cn ck cm
  go_wp2_with (first
    | (refine load_tb (T := T) rfl rfl rfl HT.out sT ?_)
    | (refine store_tb (U := T) rfl rfl rfl rfl HZ.out Tb.zero_sz sT ?_))
  have HV := Lib.hid ((HZ.out.setRow T).var sT)
  exact bodyPost_ret (v := .tuple #[.agg ⟨T.list⟩, .int .i64 141]) (results_cell_tmp Try.results14 rfl rfl HV.out) rfl ⟨rfl, below_setRow HW.out _ _ (by omega)⟩

set_option maxHeartbeats 2000000 in
theorem ra_leave_not (T : Tb) (hok : T.Ok) (D : Dc) (q : Nat) (hq : D.node = (q : Int)) (hq12 : q < 12) (hv : T.ver < 2147483647) (hk : D.kind = 5) (hm : T.m q = true) (ha : hasAny T D.node = false) : Ret 14 #[T.v, D.v] (.returned (.tuple #[.agg ⟨((T.setVer (T.ver + 1)).setMem q false).list⟩, .int .i64 0])) := by
  intro w
  have hz := zero_run
  have sT := hok.sz
  have hv0 := hok.v0
  have HQ := Lib.hid hq
  have HK := Lib.hid hk
  have HM := Lib.hid hm
  have CS := Lib.hid (rsome_any hok D.node)
  rw [ha, HQ.out] at CS
  clear ha
  clear hq hk hm
  obtain ⟨W, HWE, h1, h2, h3, hW, hsz⟩ := three_boxes w T D
  go_enter Try.func14, Try.ntmps14
  go_upto_region 1 with (fail)
  rw [← HWE]
  clear HWE
  have ck := h2.kk
  have cn := h2.nn
  have cv := h1.ver
  have HT := Lib.hid h1
  have HD := Lib.hid h2
  have HZ := Lib.hid h3
  have HW := Lib.hid hW
  have HSZ := Lib.hid (Nat.le_of_eq hsz.symm)
  clear h1 h2 h3 hW hsz
  rw [HK.out] at ck
  rw [HQ.out] at cn
  obtain ⟨h5, l5, hlt5⟩ := laid_tb (w := W) (T := T) (U := Tb.zero)
  have H1 := Lib.hid (TbR.new W Tb.zero)
  have H5 := Lib.hid h5
  have L5 := Lib.hid l5
  clear h5 l5
  go_upto_region 4 with (first
    | (refine load_tb (T := T) rfl rfl rfl HT.out sT ?_)
    | (refine load_tb (T := T) rfl rfl rfl (HT.out.alloc _) sT ?_)
    | (refine store_tb (U := T) rfl rfl rfl rfl H1.out Tb.zero_sz sT ?_))
  clear H1 ck cn cv
  replace HT := Lib.hid (HT.out.keep L5.out)
  replace HD := Lib.hid (HD.out.keep L5.out)
  replace HZ := Lib.hid (HZ.out.keep L5.out)
  replace HW := Lib.hid (below_next HW.out L5.out)
  have hbO : w.heap.size + 3 ≤ W.heap.size := HSZ.out
  clear L5
  generalize (W.alloc (.cells ⟨Tb.zero.list⟩ 29)).setRow W.heap.size ⟨T.list⟩ = W2 at *
  generalize W.heap.size = bO at *
  clear HSZ
  have cv := H5.out.ver
  have fv := H5.out.fr 0
  have wv : IntKind.u32.wrap (T.ver + 1) = T.ver + 1 := by rw [IntWalk.u32_in _ (by omega)]
  have sU := sT.setVer (T.ver + 1)
  have hk4 := Keep.setCell W2 ⟨bO, 0, none⟩ (.int .u32 (T.ver + 1))
  have HU := Lib.hid (H5.out.setVer (T.ver + 1))
  replace HT := Lib.hid (HT.out.kp hk4 (by simp; omega))
  replace HD := Lib.hid (HD.out.kp hk4 (by simp; omega))
  replace HZ := Lib.hid (HZ.out.kp hk4 (by simp; omega))
  replace HW := Lib.hid (HW.out.trans (hk4.below (B := w.heap.size) (by omega) (by simp; omega)))
  have hlt6 : bO < (W2.setCell ⟨bO, 0, none⟩ (.int .u32 (T.ver + 1))).heap.size := by simpa [World.setCell] using hlt5
  clear hk4 H5 hlt5
  go_upto_region 5 with (fail)
  clear cv fv wv
  generalize W2.setCell ⟨bO, 0, none⟩ (.int .u32 (T.ver + 1)) = w2 at *
  have ck := HD.out.kk
  have cn := HD.out.nn
  rw [HK.out] at ck
  rw [HQ.out] at cn
  have cm := HT.out.mem sT hq12
  rw [HM.out] at cm
  go_wp2_with (first
    | (refine load_tb (T := T) rfl rfl rfl HT.out sT ?_))
  refine (CS.out _).mono ?_
  rintro e w3 ⟨rfl, lk⟩
  replace HT := Lib.hid (HT.out.keep lk)
  replace HD := Lib.hid (HD.out.keep lk)
  replace HZ := Lib.hid (HZ.out.keep lk)
  replace HU := Lib.hid (HU.out.keep lk)
  replace HW := Lib.hid (below_next HW.out lk)
  replace hlt6 := Nat.lt_of_lt_of_le hlt6 lk.size
  clear lk cn ck cm
  have cn := HD.out.nn
  rw [HQ.out] at cn
  have c9 := HU.out.mem sU hq12
  have f9 := HU.out.fr (129 + q)
  have hV := HU.out.setMem sU hq12 false
  have sV := sU.setMem q false
  have hk9 := Keep.setCell w3 ⟨bO, 129 + q, none⟩ (.bool false)
  replace HZ := Lib.hid (HZ.out.kp hk9 (by simp; omega))
  replace HW := Lib.hid (HW.out.trans (hk9.below (B := w.heap.size) (by omega) (by simp; omega)))
  have HV := Lib.hid hV
  clear hV hk9 HU
  go_wp2_with (first
    | (refine load_tb (T := (T.setVer (T.ver + 1)).setMem q false) rfl rfl rfl HV.out sV ?_)
    | (refine store_tb (U := (T.setVer (T.ver + 1)).setMem q false) rfl rfl rfl rfl HZ.out Tb.zero_sz sV ?_))
  have HX9 := Lib.hid ((HZ.out.setRow ((T.setVer (T.ver + 1)).setMem q false)).var sV)
  exact bodyPost_ret (v := .tuple #[.agg ⟨((T.setVer (T.ver + 1)).setMem q false).list⟩, .int .i64 0]) (results_cell_tmp Try.results14 rfl rfl HX9.out) rfl ⟨rfl, below_setRow HW.out _ _ (by omega)⟩

set_option maxHeartbeats 2000000 in
theorem ra_given2 (T : Tb) (hok : T.Ok) (D : Dc) (q : Nat) (hq : D.node = (q : Int)) (hq12 : q < 12) (hv : T.ver < 2147483647) (hk : D.kind = 2) : Ret 14 #[T.v, D.v] (.returned (.tuple #[.agg ⟨((if gvNo T D q = 0 then mvK (decide (D.kind = 3)) (q : Int) D.f (T.setVer (T.ver + 1)) (np D.f D.z) else T)).list⟩, .int .i64 (gvNo T D q)])) := by
  intro w
  have hz := zero_run
  have sT := hok.sz
  have hv0 := hok.v0
  have HQ := Lib.hid hq
  have HK := Lib.hid hk
  have CG := Lib.hid (rgiven_any T (T.setVer (T.ver + 1)) hok (sT.setVer _) D q hq hq12 (by omega))
  have hGs : (if gvNo T D q = 0 then mvK (decide (D.kind = 3)) (q : Int) D.f (T.setVer (T.ver + 1)) (np D.f D.z) else T).Sz := by
    split
    · exact mvK_sz _ _ _ _ (sT.setVer _) _
    · exact sT
  generalize (if gvNo T D q = 0 then mvK (decide (D.kind = 3)) (q : Int) D.f (T.setVer (T.ver + 1)) (np D.f D.z) else T) = G at *
  generalize gvNo T D q = y at *
  replace CG : Hid (Ret 26 #[T.v, (T.setVer (T.ver + 1)).v, .agg #[.int .i64 2, .int .i64 (q : Int), .int .i64 D.by_, .int .i64 D.f, .int .i64 D.z, .int .u32 D.cnt, .int .u32 D.seen]] (.returned (.tuple #[.agg ⟨G.list⟩, .int .i64 y]))) := Lib.hid (by have := CG.out; unfold Dc.v Dc.cells at this; rw [HK.out, HQ.out] at this; exact this)
  clear hq hk
  obtain ⟨W, HWE, h1, h2, h3, hW, hsz⟩ := three_boxes w T D
  go_enter Try.func14, Try.ntmps14
  go_upto_region 1 with (fail)
  rw [← HWE]
  clear HWE
  have ck := h2.kk
  have cn := h2.nn
  have cv := h1.ver
  have HT := Lib.hid h1
  have HD := Lib.hid h2
  have HZ := Lib.hid h3
  have HW := Lib.hid hW
  have HSZ := Lib.hid (Nat.le_of_eq hsz.symm)
  clear h1 h2 h3 hW hsz
  rw [HK.out] at ck
  rw [HQ.out] at cn
  obtain ⟨h5, l5, hlt5⟩ := laid_tb (w := W) (T := T) (U := Tb.zero)
  have H1 := Lib.hid (TbR.new W Tb.zero)
  have H5 := Lib.hid h5
  have L5 := Lib.hid l5
  clear h5 l5
  go_upto_region 4 with (first
    | (refine load_tb (T := T) rfl rfl rfl HT.out sT ?_)
    | (refine load_tb (T := T) rfl rfl rfl (HT.out.alloc _) sT ?_)
    | (refine store_tb (U := T) rfl rfl rfl rfl H1.out Tb.zero_sz sT ?_))
  clear H1 ck cn cv
  replace HT := Lib.hid (HT.out.keep L5.out)
  replace HD := Lib.hid (HD.out.keep L5.out)
  replace HZ := Lib.hid (HZ.out.keep L5.out)
  replace HW := Lib.hid (below_next HW.out L5.out)
  have hbO : w.heap.size + 3 ≤ W.heap.size := HSZ.out
  clear L5
  generalize (W.alloc (.cells ⟨Tb.zero.list⟩ 29)).setRow W.heap.size ⟨T.list⟩ = W2 at *
  generalize W.heap.size = bO at *
  clear HSZ
  have cv := H5.out.ver
  have fv := H5.out.fr 0
  have wv : IntKind.u32.wrap (T.ver + 1) = T.ver + 1 := by rw [IntWalk.u32_in _ (by omega)]
  have sU := sT.setVer (T.ver + 1)
  have hk4 := Keep.setCell W2 ⟨bO, 0, none⟩ (.int .u32 (T.ver + 1))
  have HU := Lib.hid (H5.out.setVer (T.ver + 1))
  replace HT := Lib.hid (HT.out.kp hk4 (by simp; omega))
  replace HD := Lib.hid (HD.out.kp hk4 (by simp; omega))
  replace HZ := Lib.hid (HZ.out.kp hk4 (by simp; omega))
  replace HW := Lib.hid (HW.out.trans (hk4.below (B := w.heap.size) (by omega) (by simp; omega)))
  have hlt6 : bO < (W2.setCell ⟨bO, 0, none⟩ (.int .u32 (T.ver + 1))).heap.size := by simpa [World.setCell] using hlt5
  clear hk4 H5 hlt5
  go_upto_region 5 with (fail)
  clear cv fv wv
  generalize W2.setCell ⟨bO, 0, none⟩ (.int .u32 (T.ver + 1)) = w2 at *
  have ck := HD.out.kk
  have cn := HD.out.nn
  rw [HK.out] at ck
  rw [HQ.out] at cn
  have cb := HD.out.bb
  have cf := HD.out.ff
  have cz := HD.out.zz
  have cc := HD.out.cc
  have cs := HD.out.ss
  go_wp2_with (first
    | (refine load_tb (T := T) rfl rfl rfl HT.out sT ?_)
    | (refine load_tb (T := T.setVer (T.ver + 1)) rfl rfl rfl HU.out sU ?_))
  refine (CG.out _).mono ?_
  rintro e w3 ⟨rfl, lk⟩
  replace HZ := Lib.hid (HZ.out.keep lk)
  replace HU := Lib.hid (HU.out.keep lk)
  replace HW := Lib.hid (below_next HW.out lk)
  have hk9 := Keep.setRow w3 bO ⟨G.list⟩
  have HV := Lib.hid (HU.out.setRow G)
  have HZ3 := Lib.hid (HZ.out.kp hk9 (by simp; omega))
  have HW3 := Lib.hid (HW.out.trans (hk9.below (B := w.heap.size) (by have := lk.size; omega) (by simp; omega)))
  clear lk cn ck cb cf cz cc cs hk9 HT HD
  go_wp2_with (first
    | (refine load_tb (T := G) rfl rfl rfl HV.out hGs ?_)
    | (refine store_tb (U := G) rfl rfl rfl rfl HU.out sU hGs ?_)
    | (refine store_tb (U := G) rfl rfl rfl rfl HZ3.out Tb.zero_sz hGs ?_))
  have HX9 := Lib.hid ((HZ3.out.setRow G).var hGs)
  exact bodyPost_ret (v := .tuple #[.agg ⟨G.list⟩, .int .i64 y]) (results_cell_tmp Try.results14 rfl rfl HX9.out) rfl ⟨rfl, below_setRow HW3.out _ _ (by omega)⟩

set_option maxHeartbeats 2000000 in
theorem ra_given3 (T : Tb) (hok : T.Ok) (D : Dc) (q : Nat) (hq : D.node = (q : Int)) (hq12 : q < 12) (hv : T.ver < 2147483647) (hk : D.kind = 3) : Ret 14 #[T.v, D.v] (.returned (.tuple #[.agg ⟨((if gvNo T D q = 0 then mvK (decide (D.kind = 3)) (q : Int) D.f (T.setVer (T.ver + 1)) (np D.f D.z) else T)).list⟩, .int .i64 (gvNo T D q)])) := by
  intro w
  have hz := zero_run
  have sT := hok.sz
  have hv0 := hok.v0
  have HQ := Lib.hid hq
  have HK := Lib.hid hk
  have CG := Lib.hid (rgiven_any T (T.setVer (T.ver + 1)) hok (sT.setVer _) D q hq hq12 (by omega))
  have hGs : (if gvNo T D q = 0 then mvK (decide (D.kind = 3)) (q : Int) D.f (T.setVer (T.ver + 1)) (np D.f D.z) else T).Sz := by
    split
    · exact mvK_sz _ _ _ _ (sT.setVer _) _
    · exact sT
  generalize (if gvNo T D q = 0 then mvK (decide (D.kind = 3)) (q : Int) D.f (T.setVer (T.ver + 1)) (np D.f D.z) else T) = G at *
  generalize gvNo T D q = y at *
  replace CG : Hid (Ret 26 #[T.v, (T.setVer (T.ver + 1)).v, .agg #[.int .i64 3, .int .i64 (q : Int), .int .i64 D.by_, .int .i64 D.f, .int .i64 D.z, .int .u32 D.cnt, .int .u32 D.seen]] (.returned (.tuple #[.agg ⟨G.list⟩, .int .i64 y]))) := Lib.hid (by have := CG.out; unfold Dc.v Dc.cells at this; rw [HK.out, HQ.out] at this; exact this)
  clear hq hk
  obtain ⟨W, HWE, h1, h2, h3, hW, hsz⟩ := three_boxes w T D
  go_enter Try.func14, Try.ntmps14
  go_upto_region 1 with (fail)
  rw [← HWE]
  clear HWE
  have ck := h2.kk
  have cn := h2.nn
  have cv := h1.ver
  have HT := Lib.hid h1
  have HD := Lib.hid h2
  have HZ := Lib.hid h3
  have HW := Lib.hid hW
  have HSZ := Lib.hid (Nat.le_of_eq hsz.symm)
  clear h1 h2 h3 hW hsz
  rw [HK.out] at ck
  rw [HQ.out] at cn
  obtain ⟨h5, l5, hlt5⟩ := laid_tb (w := W) (T := T) (U := Tb.zero)
  have H1 := Lib.hid (TbR.new W Tb.zero)
  have H5 := Lib.hid h5
  have L5 := Lib.hid l5
  clear h5 l5
  go_upto_region 4 with (first
    | (refine load_tb (T := T) rfl rfl rfl HT.out sT ?_)
    | (refine load_tb (T := T) rfl rfl rfl (HT.out.alloc _) sT ?_)
    | (refine store_tb (U := T) rfl rfl rfl rfl H1.out Tb.zero_sz sT ?_))
  clear H1 ck cn cv
  replace HT := Lib.hid (HT.out.keep L5.out)
  replace HD := Lib.hid (HD.out.keep L5.out)
  replace HZ := Lib.hid (HZ.out.keep L5.out)
  replace HW := Lib.hid (below_next HW.out L5.out)
  have hbO : w.heap.size + 3 ≤ W.heap.size := HSZ.out
  clear L5
  generalize (W.alloc (.cells ⟨Tb.zero.list⟩ 29)).setRow W.heap.size ⟨T.list⟩ = W2 at *
  generalize W.heap.size = bO at *
  clear HSZ
  have cv := H5.out.ver
  have fv := H5.out.fr 0
  have wv : IntKind.u32.wrap (T.ver + 1) = T.ver + 1 := by rw [IntWalk.u32_in _ (by omega)]
  have sU := sT.setVer (T.ver + 1)
  have hk4 := Keep.setCell W2 ⟨bO, 0, none⟩ (.int .u32 (T.ver + 1))
  have HU := Lib.hid (H5.out.setVer (T.ver + 1))
  replace HT := Lib.hid (HT.out.kp hk4 (by simp; omega))
  replace HD := Lib.hid (HD.out.kp hk4 (by simp; omega))
  replace HZ := Lib.hid (HZ.out.kp hk4 (by simp; omega))
  replace HW := Lib.hid (HW.out.trans (hk4.below (B := w.heap.size) (by omega) (by simp; omega)))
  have hlt6 : bO < (W2.setCell ⟨bO, 0, none⟩ (.int .u32 (T.ver + 1))).heap.size := by simpa [World.setCell] using hlt5
  clear hk4 H5 hlt5
  go_upto_region 5 with (fail)
  clear cv fv wv
  generalize W2.setCell ⟨bO, 0, none⟩ (.int .u32 (T.ver + 1)) = w2 at *
  have ck := HD.out.kk
  have cn := HD.out.nn
  rw [HK.out] at ck
  rw [HQ.out] at cn
  have cb := HD.out.bb
  have cf := HD.out.ff
  have cz := HD.out.zz
  have cc := HD.out.cc
  have cs := HD.out.ss
  go_wp2_with (first
    | (refine load_tb (T := T) rfl rfl rfl HT.out sT ?_)
    | (refine load_tb (T := T.setVer (T.ver + 1)) rfl rfl rfl HU.out sU ?_))
  refine (CG.out _).mono ?_
  rintro e w3 ⟨rfl, lk⟩
  replace HZ := Lib.hid (HZ.out.keep lk)
  replace HU := Lib.hid (HU.out.keep lk)
  replace HW := Lib.hid (below_next HW.out lk)
  have hk9 := Keep.setRow w3 bO ⟨G.list⟩
  have HV := Lib.hid (HU.out.setRow G)
  have HZ3 := Lib.hid (HZ.out.kp hk9 (by simp; omega))
  have HW3 := Lib.hid (HW.out.trans (hk9.below (B := w.heap.size) (by have := lk.size; omega) (by simp; omega)))
  clear lk cn ck cb cf cz cc cs hk9 HT HD
  go_wp2_with (first
    | (refine load_tb (T := G) rfl rfl rfl HV.out hGs ?_)
    | (refine store_tb (U := G) rfl rfl rfl rfl HU.out sU hGs ?_)
    | (refine store_tb (U := G) rfl rfl rfl rfl HZ3.out Tb.zero_sz hGs ?_))
  have HX9 := Lib.hid ((HZ3.out.setRow G).var hGs)
  exact bodyPost_ret (v := .tuple #[.agg ⟨G.list⟩, .int .i64 y]) (results_cell_tmp Try.results14 rfl rfl HX9.out) rfl ⟨rfl, below_setRow HW3.out _ _ (by omega)⟩

theorem apR_no {T : Tb} {D : Dc} (e : Int) (h : refuse T D = e) (he : ¬ e = 0) : apR T D = .tuple #[.agg ⟨T.list⟩, .int .i64 e] := by unfold apR apT; rw [h, if_neg he]
theorem apR_yes {T U : Tb} {D : Dc} (h : refuse T D = 0) (hU : behindT T D = U) : apR T D = .tuple #[.agg ⟨U.list⟩, .int .i64 0] := by unfold apR apT; rw [h, if_pos rfl, hU]
theorem refuse_mid {T : Tb} {D : Dc} (h1 : ¬ D.kind < 1) (h2 : ¬ 5 < D.kind) {q : Nat} (hq : D.node = (q : Int)) (hq12 : q < 12) (hv : T.ver < 2147483647) :
    refuse T D = if T.m q = decide (D.kind = 4) then 143 else if D.kind = 1 then (if D.cnt = T.r q + 1 then 0 else 144) else if D.kind = 5 then (if hasAny T D.node = true then 141 else 0) else if D.kind = 4 then 0 else arcNo T D := by
  unfold refuse
  have hn : isN D.node = true := isN_spec.2 ⟨by omega, by omega⟩
  rw [if_neg (by rintro (h | h | h | h); exact h1 h; exact h2 h; rw [hn] at h; cases h; omega), show D.node.toNat = q by omega]
theorem rapply_any {T : Tb} (hok : T.Ok) (D : Dc) (c0 : 0 ≤ D.cnt) (c1 : D.cnt ≤ 4294967295) : Ret 14 #[T.v, D.v] (.returned (apR T D)) := by
  by_cases h1 : D.kind < 1
  · rw [apR_no 1 (by unfold refuse; rw [if_pos (.inl h1)]) (by omega)]; exact ra_low T hok D h1
  · by_cases h2 : 5 < D.kind
    · rw [apR_no 1 (by unfold refuse; rw [if_pos (.inr (.inl h2))]) (by omega)]; exact ra_high T hok D (by omega) h2
    · by_cases n1 : D.node < 0
      · rw [apR_no 1 (by unfold refuse; rw [if_pos (.inr (.inr (.inl (by unfold isN; simp; omega))))]) (by omega)]; exact ra_nlow T hok D (by omega) (by omega) n1
      · by_cases n2 : 12 ≤ D.node
        · rw [apR_no 1 (by unfold refuse; rw [if_pos (.inr (.inr (.inl (by unfold isN; simp; omega))))]) (by omega)]; exact ra_nhigh T hok D (by omega) (by omega) (by omega) n2
        · by_cases hv : 2147483647 ≤ T.ver
          · rw [apR_no 1 (by unfold refuse; rw [if_pos (.inr (.inr (.inr hv)))]) (by omega)]; exact ra_ver T hok D (by omega) (by omega) (by omega) (by omega) hv
          · obtain ⟨q, hq, hq12⟩ : ∃ q : Nat, D.node = (q : Int) ∧ q < 12 := ⟨D.node.toNat, by omega, by omega⟩
            have hqt : D.node.toNat = q := by omega
            have hv' : T.ver < 2147483647 := by omega
            have hk : D.kind = 1 ∨ D.kind = 2 ∨ D.kind = 3 ∨ D.kind = 4 ∨ D.kind = 5 := by omega
            have hm0 := refuse_mid h1 h2 hq hq12 hv'
            have hg : (D.kind = 2 ∨ D.kind = 3) → refuse T D = gvNo T D q := fun hk => by
              rw [hm0, if_neg (by omega : ¬ D.kind = 1), if_neg (by omega : ¬ D.kind = 5), if_neg (by omega : ¬ D.kind = 4), show decide (D.kind = 4) = false by simp; omega]
              unfold gvNo
              cases T.m q <;> simp
            have hgb : (D.kind = 2 ∨ D.kind = 3) → Value.tuple #[.agg ⟨(if gvNo T D q = 0 then mvK (decide (D.kind = 3)) (q : Int) D.f (T.setVer (T.ver + 1)) (np D.f D.z) else T).list⟩, .int .i64 (gvNo T D q)] = apR T D := fun hk => by
              unfold apR apT
              rw [hg hk]
              have e : behindT T D = mvK (decide (D.kind = 3)) (q : Int) D.f (T.setVer (T.ver + 1)) (np D.f D.z) := by
                unfold behindT
                rw [if_neg (by omega : ¬ D.kind = 1), if_neg (by omega : ¬ D.kind = 4), if_neg (by omega : ¬ D.kind = 5), hq]
              rw [e]
            rcases hk with hk | hk | hk | hk | hk
            · cases hm : T.m q
              · rw [apR_no 143 (by rw [hm0, hm, if_pos (by rw [hk]; decide)]) (by omega)]; exact ra_mem1 T hok D q hq hq12 hv' hk hm
              · have e1 : refuse T D = if D.cnt = T.r q + 1 then 0 else 144 := by rw [hm0, hm, if_neg (by rw [hk]; decide), if_pos hk]
                by_cases hc : D.cnt = T.r q + 1
                · rw [apR_yes (by rw [e1, if_pos hc]) (by unfold behindT; rw [if_pos hk, hqt])]; exact ra_renew_same T hok D q hq hq12 hv' hk hm hc c0 c1
                · rw [apR_no 144 (by rw [e1, if_neg hc]) (by omega)]; exact ra_renew_other T hok D q hq hq12 hv' hk hm hc c0 c1
            · rw [← hgb (.inl hk)]; exact ra_given2 T hok D q hq hq12 hv' hk
            · rw [← hgb (.inr hk)]; exact ra_given3 T hok D q hq hq12 hv' hk
            · cases hm : T.m q
              · rw [apR_yes (by rw [hm0, hm, if_neg (by rw [hk]; decide), if_neg (by omega : ¬ D.kind = 1), if_neg (by omega : ¬ D.kind = 5), if_pos hk]) (by unfold behindT; rw [if_neg (by omega : ¬ D.kind = 1), if_pos hk, hqt])]; exact ra_join T hok D q hq hq12 hv' hk hm
              · rw [apR_no 143 (by rw [hm0, hm, if_pos (by rw [hk]; decide)]) (by omega)]; exact ra_mem4 T hok D q hq hq12 hv' hk hm
            · cases hm : T.m q
              · rw [apR_no 143 (by rw [hm0, hm, if_pos (by rw [hk]; decide)]) (by omega)]; exact ra_mem5 T hok D q hq hq12 hv' hk hm
              · have e1 : refuse T D = if hasAny T D.node = true then 141 else 0 := by rw [hm0, hm, if_neg (by rw [hk]; decide), if_neg (by omega : ¬ D.kind = 1), if_pos hk]
                cases ha : hasAny T D.node
                · rw [apR_yes (by rw [e1, ha, if_neg (by decide)]) (by unfold behindT; rw [if_neg (by omega : ¬ D.kind = 1), if_neg (by omega : ¬ D.kind = 4), if_pos hk, hqt])]; exact ra_leave_not T hok D q hq hq12 hv' hk hm ha
                · rw [apR_no 141 (by rw [e1, ha, if_pos rfl]) (by omega)]; exact ra_leave_yes T hok D q hq hq12 hv' hk hm ha
end Go.Proofs.Ytikeiocgnjdhbaa
