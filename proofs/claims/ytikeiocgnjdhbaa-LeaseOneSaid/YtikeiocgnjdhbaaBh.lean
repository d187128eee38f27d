/- lease.behind (gen_bh.py writes it). -/
import Derived.Test.YtikeiocgnjdhbaaKp
namespace Go.Proofs.Ytikeiocgnjdhbaa
open Go.RowKit Go.Sort
set_option linter.unusedVariables false
set_option linter.unusedSimpArgs false
set_option maxRecDepth 100000

/-- k places from f on have gone to a node -/
def mvK (tk : Bool) (node f : Int) (T : Tb) : Nat → Tb
  | 0 => T
  | k + 1 => if tk then ((mvK tk node f T k).setOwn ((f + (k : Int)) % 64).toNat node).setInc ((f + (k : Int)) % 64).toNat T.ver else (mvK tk node f T k).setOwn ((f + (k : Int)) % 64).toNat node
theorem mvK_ver (tk : Bool) (node f : Int) (T : Tb) : ∀ k, (mvK tk node f T k).ver = T.ver
  | 0 => rfl
  | k + 1 => by rw [mvK]; split <;> exact mvK_ver tk node f T k
theorem mvK_sz (tk : Bool) (node f : Int) (T : Tb) (s : T.Sz) : ∀ k, (mvK tk node f T k).Sz
  | 0 => s
  | k + 1 => by
    rw [mvK]; split
    · exact ((mvK_sz tk node f T s k).setOwn _ _).setInc _ _
    · exact (mvK_sz tk node f T s k).setOwn _ _
theorem mvK_take (node f : Int) (T : Tb) (k : Nat) : mvK true node f T (k + 1) = ((mvK true node f T k).setOwn ((f + (k : Int)) % 64).toNat node).setInc ((f + (k : Int)) % 64).toNat T.ver := rfl
theorem mvK_move (node f : Int) (T : Tb) (k : Nat) : mvK false node f T (k + 1) = (mvK false node f T k).setOwn ((f + (k : Int)) % 64).toNat node := rfl
/-- the table behind a decree that may be -/
def behindT (T : Tb) (D : Dc) : Tb :=
  if D.kind = 1 then (T.setVer (T.ver + 1)).setRen D.node.toNat D.cnt
  else if D.kind = 4 then ((T.setVer (T.ver + 1)).setMem D.node.toNat true).setRen D.node.toNat 0
  else if D.kind = 5 then (T.setVer (T.ver + 1)).setMem D.node.toNat false
  else mvK (decide (D.kind = 3)) D.node D.f (T.setVer (T.ver + 1)) (np D.f D.z)
/-- all boxed, and a table for what comes back -/
theorem three_boxes (w : World) (T : Tb) (D : Dc) : ∃ W, W = ((w.alloc (.cells ⟨T.list⟩ 29)).alloc (.cells D.cells 39)).alloc (.cells ⟨Tb.zero.list⟩ 29) ∧ TbR W w.heap.size T ∧ DcR W (w.heap.size + 1) D ∧ TbR W (w.heap.size + 2) Tb.zero
    ∧ Below w.heap.size w W ∧ W.heap.size = w.heap.size + 3 := by
  obtain ⟨h1, h2, h3⟩ := two_boxes w T D
  refine ⟨_, rfl, h1.alloc _, h2.alloc _, ?_, below_alloc h3 _, by simp⟩
  have := TbR.new ((w.alloc (.cells ⟨T.list⟩ 29)).alloc (.cells D.cells 39)) Tb.zero
  rw [World.size_alloc, World.size_alloc] at this
  exact this
set_option maxHeartbeats 2000000 in
theorem bh_renew (T : Tb) (s : T.Sz) (D : Dc) (q : Nat) (hq : D.node = (q : Int)) (hq12 : q < 12) (v0 : 0 ≤ T.ver) (v1 : T.ver < 2147483647) (hk : D.kind = 1) : Ret 24 #[T.v, D.v] (.returned (.agg ⟨((T.setVer (T.ver + 1)).setRen q D.cnt).list⟩)) := by
  intro w
  have hz := zero_run
  have HQ := Lib.hid hq
  have HK := Lib.hid hk
  clear hq hk
  obtain ⟨W, HWE, h1, h2, h3, hW, hsz⟩ := three_boxes w T D
  go_enter Try.func24, Try.ntmps24
  go_upto_region 1 with (fail)
  rw [← HWE]
  clear HWE
  have ck := h2.kk
  have cn := h2.nn
  rw [HK.out] at ck
  rw [HQ.out] at cn
  have cv := h1.ver
  have fv := h1.fr 0
  have wv : IntKind.u32.wrap (T.ver + 1) = T.ver + 1 := by rw [IntWalk.u32_in _ (by omega)]
  have hU := h1.setVer (T.ver + 1)
  have sU := s.setVer (T.ver + 1)
  have hk := Keep.setCell W ⟨w.heap.size, 0, none⟩ (.int .u32 (T.ver + 1))
  have H2 := Lib.hid (h2.kp hk (by simp))
  have H3 := Lib.hid (h3.kp hk (by simp))
  have HU := Lib.hid hU
  have HW := Lib.hid (hW.trans (hk.below (B := w.heap.size) (by omega) (by simp)))
  have hsz2 : (W.setCell ⟨w.heap.size, 0, none⟩ (.int .u32 (T.ver + 1))).heap.size = w.heap.size + 3 := by simp [World.setCell, hsz]
  clear h1 h2 h3 hW hk hU hsz
  go_upto_region 2 with (fail)
  clear ck cn cv fv wv
  generalize W.setCell ⟨w.heap.size, 0, none⟩ (.int .u32 (T.ver + 1)) = W2 at *
  have HSZ := Lib.hid hsz2
  clear hsz2
  have ck := H2.out.kk
  have cn := H2.out.nn
  rw [HK.out] at ck
  rw [HQ.out] at cn
  have cc := H2.out.cc
  have c1 := HU.out.ren sU hq12
  have f1 := HU.out.fr (141 + q)
  have hV := HU.out.setRen sU hq12 D.cnt
  have sV := sU.setRen q D.cnt
  have hk := Keep.setCell W2 ⟨w.heap.size, (141 + q), none⟩ (.int .u32 D.cnt)
  replace H3 := Lib.hid (H3.out.kp hk (by simp))
  replace HW := Lib.hid (HW.out.trans (hk.below (B := w.heap.size) (by have := HSZ.out; omega) (by simp)))
  have HV := Lib.hid hV
  clear hV hk HU
  go_wp2_with (first
    | (refine load_tb (T := (T.setVer (T.ver + 1)).setRen q D.cnt) rfl rfl rfl HV.out sV ?_)
    | (refine store_tb (U := (T.setVer (T.ver + 1)).setRen q D.cnt) rfl rfl rfl rfl H3.out Tb.zero_sz sV ?_))
  have HE := Lib.hid ((H3.out.setRow ((T.setVer (T.ver + 1)).setRen q D.cnt)).var sV)
  exact bodyPost_ret (v := .agg ⟨((T.setVer (T.ver + 1)).setRen q D.cnt).list⟩) (results_cell1 Try.results24 rfl HE.out) rfl ⟨rfl, below_setRow HW.out (w.heap.size + 2) ⟨((T.setVer (T.ver + 1)).setRen q D.cnt).list⟩ (by omega)⟩

set_option maxHeartbeats 2000000 in
theorem bh_leave (T : Tb) (s : T.Sz) (D : Dc) (q : Nat) (hq : D.node = (q : Int)) (hq12 : q < 12) (v0 : 0 ≤ T.ver) (v1 : T.ver < 2147483647) (hk : D.kind = 5) : Ret 24 #[T.v, D.v] (.returned (.agg ⟨((T.setVer (T.ver + 1)).setMem q false).list⟩)) := by
  intro w
  have hz := zero_run
  have HQ := Lib.hid hq
  have HK := Lib.hid hk
  clear hq hk
  obtain ⟨W, HWE, h1, h2, h3, hW, hsz⟩ := three_boxes w T D
  go_enter Try.func24, Try.ntmps24
  go_upto_region 1 with (fail)
  rw [← HWE]
  clear HWE
  have ck := h2.kk
  have cn := h2.nn
  rw [HK.out] at ck
  rw [HQ.out] at cn
  have cv := h1.ver
  have fv := h1.fr 0
  have wv : IntKind.u32.wrap (T.ver + 1) = T.ver + 1 := by rw [IntWalk.u32_in _ (by omega)]
  have hU := h1.setVer (T.ver + 1)
  have sU := s.setVer (T.ver + 1)
  have hk := Keep.setCell W ⟨w.heap.size, 0, none⟩ (.int .u32 (T.ver + 1))
  have H2 := Lib.hid (h2.kp hk (by simp))
  have H3 := Lib.hid (h3.kp hk (by simp))
  have HU := Lib.hid hU
  have HW := Lib.hid (hW.trans (hk.below (B := w.heap.size) (by omega) (by simp)))
  have hsz2 : (W.setCell ⟨w.heap.size, 0, none⟩ (.int .u32 (T.ver + 1))).heap.size = w.heap.size + 3 := by simp [World.setCell, hsz]
  clear h1 h2 h3 hW hk hU hsz
  go_upto_region 2 with (fail)
  clear ck cn cv fv wv
  generalize W.setCell ⟨w.heap.size, 0, none⟩ (.int .u32 (T.ver + 1)) = W2 at *
  have HSZ := Lib.hid hsz2
  clear hsz2
  have ck := H2.out.kk
  have cn := H2.out.nn
  rw [HK.out] at ck
  rw [HQ.out] at cn
  have cc := H2.out.cc
  have c1 := HU.out.mem sU hq12
  have f1 := HU.out.fr (129 + q)
  have hV := HU.out.setMem sU hq12 false
  have sV := sU.setMem q false
  have hk := Keep.setCell W2 ⟨w.heap.size, (129 + q), none⟩ (.bool false)
  replace H3 := Lib.hid (H3.out.kp hk (by simp))
  replace HW := Lib.hid (HW.out.trans (hk.below (B := w.heap.size) (by have := HSZ.out; omega) (by simp)))
  have HV := Lib.hid hV
  clear hV hk HU
  go_wp2_with (first
    | (refine load_tb (T := (T.setVer (T.ver + 1)).setMem q false) rfl rfl rfl HV.out sV ?_)
    | (refine store_tb (U := (T.setVer (T.ver + 1)).setMem q false) rfl rfl rfl rfl H3.out Tb.zero_sz sV ?_))
  have HE := Lib.hid ((H3.out.setRow ((T.setVer (T.ver + 1)).setMem q false)).var sV)
  exact bodyPost_ret (v := .agg ⟨((T.setVer (T.ver + 1)).setMem q false).list⟩) (results_cell1 Try.results24 rfl HE.out) rfl ⟨rfl, below_setRow HW.out (w.heap.size + 2) ⟨((T.setVer (T.ver + 1)).setMem q false).list⟩ (by omega)⟩

set_option maxHeartbeats 2000000 in
theorem bh_join (T : Tb) (s : T.Sz) (D : Dc) (q : Nat) (hq : D.node = (q : Int)) (hq12 : q < 12) (v0 : 0 ≤ T.ver) (v1 : T.ver < 2147483647) (hk : D.kind = 4) : Ret 24 #[T.v, D.v] (.returned (.agg ⟨(((T.setVer (T.ver + 1)).setMem q true).setRen q 0).list⟩)) := by
  intro w
  have hz := zero_run
  have HQ := Lib.hid hq
  have HK := Lib.hid hk
  clear hq hk
  obtain ⟨W, HWE, h1, h2, h3, hW, hsz⟩ := three_boxes w T D
  go_enter Try.func24, Try.ntmps24
  go_upto_region 1 with (fail)
  rw [← HWE]
  clear HWE
  have ck := h2.kk
  have cn := h2.nn
  rw [HK.out] at ck
  rw [HQ.out] at cn
  have cv := h1.ver
  have fv := h1.fr 0
  have wv : IntKind.u32.wrap (T.ver + 1) = T.ver + 1 := by rw [IntWalk.u32_in _ (by omega)]
  have hU := h1.setVer (T.ver + 1)
  have sU := s.setVer (T.ver + 1)
  have hk := Keep.setCell W ⟨w.heap.size, 0, none⟩ (.int .u32 (T.ver + 1))
  have H2 := Lib.hid (h2.kp hk (by simp))
  have H3 := Lib.hid (h3.kp hk (by simp))
  have HU := Lib.hid hU
  have HW := Lib.hid (hW.trans (hk.below (B := w.heap.size) (by omega) (by simp)))
  have hsz2 : (W.setCell ⟨w.heap.size, 0, none⟩ (.int .u32 (T.ver + 1))).heap.size = w.heap.size + 3 := by simp [World.setCell, hsz]
  clear h1 h2 h3 hW hk hU hsz
  go_upto_region 2 with (fail)
  clear ck cn cv fv wv
  generalize W.setCell ⟨w.heap.size, 0, none⟩ (.int .u32 (T.ver + 1)) = W2 at *
  have HSZ := Lib.hid hsz2
  clear hsz2
  have ck := H2.out.kk
  have cn := H2.out.nn
  rw [HK.out] at ck
  rw [HQ.out] at cn
  have c1 := HU.out.mem sU hq12
  have c2 := HU.out.ren sU hq12
  have f1 := HU.out.fr (129 + q)
  have f2 := HU.out.fr (141 + q)
  have hV := (HU.out.setMem sU hq12 true).setRen (sU.setMem q true) hq12 0
  have hV2 := (HU.out.setRen sU hq12 0).setMem (sU.setRen q 0) hq12 true
  have sV := (sU.setMem q true).setRen q 0
  have hk := (Keep.setCell W2 ⟨w.heap.size, (129 + q), none⟩ (.bool true)).trans (Keep.setCell (W2.setCell ⟨w.heap.size, (129 + q), none⟩ (.bool true)) ⟨w.heap.size, (141 + q), none⟩ (.int .u32 0))
  have hk2 := (Keep.setCell W2 ⟨w.heap.size, (141 + q), none⟩ (.int .u32 0)).trans (Keep.setCell (W2.setCell ⟨w.heap.size, (141 + q), none⟩ (.int .u32 0)) ⟨w.heap.size, (129 + q), none⟩ (.bool true))
  have H3a := Lib.hid (H3.out.kp hk (by simp))
  have H3b := Lib.hid (H3.out.kp hk2 (by simp))
  have HWa := Lib.hid (HW.out.trans (hk.below (B := w.heap.size) (by have := HSZ.out; omega) (by simp)))
  have HWb := Lib.hid (HW.out.trans (hk2.below (B := w.heap.size) (by have := HSZ.out; omega) (by simp)))
  have HVa := Lib.hid hV
  have HVb := Lib.hid hV2
  clear hV hV2 hk hk2 HU H3 HW
  go_upto_region 6 with (fail)
  go_region
  have HV := Lib.hid (HVa.out.kp ((Keep.refl [] _).drew) (by simp))
  have H3 := Lib.hid (H3a.out.kp ((Keep.refl [] _).drew) (by simp))
  have HW := Lib.hid (HWa.out.drew)
  clear HVa HVb HWa HWb H3a H3b
  go_wp2_with (first
    | (refine load_tb (T := ((T.setVer (T.ver + 1)).setMem q true).setRen q 0) rfl rfl rfl HV.out sV ?_)
    | (refine store_tb (U := ((T.setVer (T.ver + 1)).setMem q true).setRen q 0) rfl rfl rfl rfl H3.out Tb.zero_sz sV ?_))
  have HE := Lib.hid ((H3.out.setRow (((T.setVer (T.ver + 1)).setMem q true).setRen q 0)).var sV)
  exact bodyPost_ret (v := .agg ⟨(((T.setVer (T.ver + 1)).setMem q true).setRen q 0).list⟩) (results_cell1 Try.results24 rfl HE.out) rfl ⟨rfl, below_setRow HW.out (w.heap.size + 2) ⟨(((T.setVer (T.ver + 1)).setMem q true).setRen q 0).list⟩ (by omega)⟩

set_option maxHeartbeats 2000000 in
theorem bh_move (T : Tb) (s : T.Sz) (D : Dc) (q : Nat) (hq : D.node = (q : Int)) (hq12 : q < 12) (v0 : 0 ≤ T.ver) (v1 : T.ver < 2147483647) (hk : D.kind = 2) : Ret 24 #[T.v, D.v] (.returned (.agg ⟨(mvK false (q : Int) D.f (T.setVer (T.ver + 1)) (np D.f D.z)).list⟩)) := by
  intro w
  have hz := zero_run
  have HQ := Lib.hid hq
  have HK := Lib.hid hk
  clear hq hk
  obtain ⟨W, HWE, h1, h2, h3, hW, hsz⟩ := three_boxes w T D
  go_enter Try.func24, Try.ntmps24
  go_upto_region 1 with (fail)
  rw [← HWE]
  clear HWE
  have ck := h2.kk
  have cn := h2.nn
  rw [HK.out] at ck
  rw [HQ.out] at cn
  have cv := h1.ver
  have fv := h1.fr 0
  have wv : IntKind.u32.wrap (T.ver + 1) = T.ver + 1 := by rw [IntWalk.u32_in _ (by omega)]
  have hU := h1.setVer (T.ver + 1)
  have sU := s.setVer (T.ver + 1)
  have hk := Keep.setCell W ⟨w.heap.size, 0, none⟩ (.int .u32 (T.ver + 1))
  have H2 := Lib.hid (h2.kp hk (by simp))
  have H3 := Lib.hid (h3.kp hk (by simp))
  have HU := Lib.hid hU
  have HW := Lib.hid (hW.trans (hk.below (B := w.heap.size) (by omega) (by simp)))
  have hsz2 : (W.setCell ⟨w.heap.size, 0, none⟩ (.int .u32 (T.ver + 1))).heap.size = w.heap.size + 3 := by simp [World.setCell, hsz]
  clear h1 h2 h3 hW hk hU hsz
  go_upto_region 2 with (fail)
  clear ck cn cv fv wv
  generalize W.setCell ⟨w.heap.size, 0, none⟩ (.int .u32 (T.ver + 1)) = W2 at *
  have HSZ := Lib.hid hsz2
  clear hsz2
  have ck := H2.out.kk
  have cn := H2.out.nn
  rw [HK.out] at ck
  rw [HQ.out] at cn
  have cf := H2.out.ff
  have cz := H2.out.zz
  go_wp2_with fail
  refine (places_any D.f D.z _).mono ?_
  rintro e w1 ⟨v, rfl, hown, l1⟩
  obtain ⟨ao, cap, rfl, s1⟩ := made_placesG hown
  have hlt0 := HU.out.lt
  have S1 := Lib.hid s1
  replace HU := Lib.hid (HU.out.keep l1)
  replace H2 := Lib.hid (H2.out.keep l1)
  replace H3 := Lib.hid (H3.out.keep l1)
  replace HW := Lib.hid (below_next HW.out l1)
  have HSZ1 := Lib.hid (Nat.le_trans (Nat.le_of_eq HSZ.out.symm) l1.size)
  have HB9 : Hid (w.heap.size + 3 ≤ W2.heap.size) := Lib.hid (Nat.le_of_eq HSZ.out.symm)
  clear hown s1 l1 ck cn cf cz HSZ hlt0
  have hnp := np_le D.f D.z
  generalize hm : np D.f D.z = m at *
  have HM := Lib.hid hm
  clear hm
  have HE := Lib.hid (fun k => mvK_move (q : Int) D.f (T.setVer (T.ver + 1)) k)
  have HSK := Lib.hid (fun k => mvK_sz false (q : Int) D.f (T.setVer (T.ver + 1)) sU k)
  go_wp2_with fail
  go_loopw [6, 44] (fun _ i wr => ∃ k : Nat, k ≤ m ∧ i = .int .i64 (k : Int) ∧ Keep [w.heap.size] w1 wr ∧ TbR wr w.heap.size (mvK false (q : Int) D.f (T.setVer (T.ver + 1)) k)) (fun _ i _ => m - (intOf i).toNat)
  case atStart => exact ⟨0, Nat.zero_le _, rfl, Keep.refl _ _, HU.out⟩
  case round =>
    obtain ⟨k, hk, rfl, hK, hT⟩ := hrel
    clear HU
    have szk := HSK.out k
    by_cases hlt : k < m
    · obtain ⟨g, rfl, hg0, hg, hc⟩ := (S1.out.kp hK (by intro x hx; simp at hx; have := HB9.out; omega)) k hlt
      have hgb : g ≠ w.heap.size := by have := HB9.out; omega
      replace hc : wr.cell? ⟨g, k, none⟩ = some (.int .i64 ((D.f + (k : Int)) % 64)) := hc
      have he := HE.out k
      obtain ⟨p, hp, hp64⟩ : ∃ p : Nat, (D.f + (k : Int)) % 64 = (p : Int) ∧ p < 64 := ⟨((D.f + (k : Int)) % 64).toNat, by omega, by omega⟩
      rw [hp] at hc he
      rw [Int.toNat_natCast] at he
      clear hp
      have h2 := H2.out.kp hK (by simp)
      have ck := h2.kk
      have cn := h2.nn
      rw [HK.out] at ck
      rw [HQ.out] at cn
      clear h2 hg0 hg
      have c0 := hT.ver
      rw [mvK_ver] at c0
      have c1 := hT.own szk hp64
      have f1 := hT.fr (1 + p)
      have hs1 := hT.setOwn szk hp64 (q : Int)
      have hk1 := Keep.setCell wr ⟨w.heap.size, 1 + p, none⟩ (.int .i64 (q : Int))
      have hs2 := hs1
      have hk2 := hK.trans hk1
      rw [show (T.setVer (T.ver + 1)).ver = T.ver + 1 from rfl] at c0
      rw [← he] at hs2
      have HS2 := Lib.hid hs2
      have HK2 := Lib.hid hk2
      clear hs1 hs2 hk1 hk2 hT hK he szk HE HSK
      go_wp2_with fail
      go_roundw
      case rel => exact ⟨k + 1, by omega, by go_num, HK2.out, HS2.out⟩
      case measure => simp [intOf]; omega
    · obtain rfl : m = k := by omega
      replace H3 := Lib.hid (H3.out.kp hK (by simp))
      replace HW := Lib.hid (HW.out.trans (hK.below (B := w.heap.size) (by have := HSZ1.out; omega) (by simp)))
      have HV := Lib.hid hT
      have sV := szk
      clear hK hT szk
      go_wp2_with (first
        | (refine load_tb (T := mvK false (q : Int) D.f (T.setVer (T.ver + 1)) m) rfl rfl rfl HV.out sV ?_)
        | (refine store_tb (U := mvK false (q : Int) D.f (T.setVer (T.ver + 1)) m) rfl rfl rfl rfl H3.out Tb.zero_sz sV ?_))
      have HE := Lib.hid ((H3.out.setRow (mvK false (q : Int) D.f (T.setVer (T.ver + 1)) m)).var sV)
      exact bodyPost_ret (v := .agg ⟨(mvK false (q : Int) D.f (T.setVer (T.ver + 1)) m).list⟩) (results_cell1 Try.results24 rfl HE.out) rfl ⟨by rw [HM.out], below_setRow HW.out (w.heap.size + 2) ⟨(mvK false (q : Int) D.f (T.setVer (T.ver + 1)) m).list⟩ (by omega)⟩

set_option maxHeartbeats 2000000 in
theorem bh_take (T : Tb) (s : T.Sz) (D : Dc) (q : Nat) (hq : D.node = (q : Int)) (hq12 : q < 12) (v0 : 0 ≤ T.ver) (v1 : T.ver < 2147483647) (hk : D.kind = 3) : Ret 24 #[T.v, D.v] (.returned (.agg ⟨(mvK true (q : Int) D.f (T.setVer (T.ver + 1)) (np D.f D.z)).list⟩)) := by
  intro w
  have hz := zero_run
  have HQ := Lib.hid hq
  have HK := Lib.hid hk
  clear hq hk
  obtain ⟨W, HWE, h1, h2, h3, hW, hsz⟩ := three_boxes w T D
  go_enter Try.func24, Try.ntmps24
  go_upto_region 1 with (fail)
  rw [← HWE]
  clear HWE
  have ck := h2.kk
  have cn := h2.nn
  rw [HK.out] at ck
  rw [HQ.out] at cn
  have cv := h1.ver
  have fv := h1.fr 0
  have wv : IntKind.u32.wrap (T.ver + 1) = T.ver + 1 := by rw [IntWalk.u32_in _ (by omega)]
  have hU := h1.setVer (T.ver + 1)
  have sU := s.setVer (T.ver + 1)
  have hk := Keep.setCell W ⟨w.heap.size, 0, none⟩ (.int .u32 (T.ver + 1))
  have H2 := Lib.hid (h2.kp hk (by simp))
  have H3 := Lib.hid (h3.kp hk (by simp))
  have HU := Lib.hid hU
  have HW := Lib.hid (hW.trans (hk.below (B := w.heap.size) (by omega) (by simp)))
  have hsz2 : (W.setCell ⟨w.heap.size, 0, none⟩ (.int .u32 (T.ver + 1))).heap.size = w.heap.size + 3 := by simp [World.setCell, hsz]
  clear h1 h2 h3 hW hk hU hsz
  go_upto_region 2 with (fail)
  clear ck cn cv fv wv
  generalize W.setCell ⟨w.heap.size, 0, none⟩ (.int .u32 (T.ver + 1)) = W2 at *
  have HSZ := Lib.hid hsz2
  clear hsz2
  have ck := H2.out.kk
  have cn := H2.out.nn
  rw [HK.out] at ck
  rw [HQ.out] at cn
  have cf := H2.out.ff
  have cz := H2.out.zz
  go_wp2_with fail
  refine (places_any D.f D.z _).mono ?_
  rintro e w1 ⟨v, rfl, hown, l1⟩
  obtain ⟨ao, cap, rfl, s1⟩ := made_placesG hown
  have hlt0 := HU.out.lt
  have S1 := Lib.hid s1
  replace HU := Lib.hid (HU.out.keep l1)
  replace H2 := Lib.hid (H2.out.keep l1)
  replace H3 := Lib.hid (H3.out.keep l1)
  replace HW := Lib.hid (below_next HW.out l1)
  have HSZ1 := Lib.hid (Nat.le_trans (Nat.le_of_eq HSZ.out.symm) l1.size)
  have HB9 : Hid (w.heap.size + 3 ≤ W2.heap.size) := Lib.hid (Nat.le_of_eq HSZ.out.symm)
  clear hown s1 l1 ck cn cf cz HSZ hlt0
  have hnp := np_le D.f D.z
  generalize hm : np D.f D.z = m at *
  have HM := Lib.hid hm
  clear hm
  have HE := Lib.hid (fun k => mvK_take (q : Int) D.f (T.setVer (T.ver + 1)) k)
  have HSK := Lib.hid (fun k => mvK_sz true (q : Int) D.f (T.setVer (T.ver + 1)) sU k)
  go_wp2_with fail
  go_loopw [6, 44] (fun _ i wr => ∃ k : Nat, k ≤ m ∧ i = .int .i64 (k : Int) ∧ Keep [w.heap.size] w1 wr ∧ TbR wr w.heap.size (mvK true (q : Int) D.f (T.setVer (T.ver + 1)) k)) (fun _ i _ => m - (intOf i).toNat)
  case atStart => exact ⟨0, Nat.zero_le _, rfl, Keep.refl _ _, HU.out⟩
  case round =>
    obtain ⟨k, hk, rfl, hK, hT⟩ := hrel
    clear HU
    have szk := HSK.out k
    by_cases hlt : k < m
    · obtain ⟨g, rfl, hg0, hg, hc⟩ := (S1.out.kp hK (by intro x hx; simp at hx; have := HB9.out; omega)) k hlt
      have hgb : g ≠ w.heap.size := by have := HB9.out; omega
      replace hc : wr.cell? ⟨g, k, none⟩ = some (.int .i64 ((D.f + (k : Int)) % 64)) := hc
      have he := HE.out k
      obtain ⟨p, hp, hp64⟩ : ∃ p : Nat, (D.f + (k : Int)) % 64 = (p : Int) ∧ p < 64 := ⟨((D.f + (k : Int)) % 64).toNat, by omega, by omega⟩
      rw [hp] at hc he
      rw [Int.toNat_natCast] at he
      clear hp
      have h2 := H2.out.kp hK (by simp)
      have ck := h2.kk
      have cn := h2.nn
      rw [HK.out] at ck
      rw [HQ.out] at cn
      clear h2 hg0 hg
      have c0 := hT.ver
      rw [mvK_ver] at c0
      have c1 := hT.own szk hp64
      have f1 := hT.fr (1 + p)
      have hs1 := hT.setOwn szk hp64 (q : Int)
      have hk1 := Keep.setCell wr ⟨w.heap.size, 1 + p, none⟩ (.int .i64 (q : Int))
      have c2 := hT.inc szk hp64
      have f2 := hT.fr (65 + p)
      have hs2 := hs1.setInc (szk.setOwn p (q : Int)) hp64 (T.ver + 1)
      have hk2 := hK.trans (hk1.trans (Keep.setCell (wr.setCell ⟨w.heap.size, 1 + p, none⟩ (.int .i64 (q : Int))) ⟨w.heap.size, 65 + p, none⟩ (.int .u32 (T.ver + 1))))
      rw [show (T.setVer (T.ver + 1)).ver = T.ver + 1 from rfl] at c0
      rw [← he] at hs2
      have HS2 := Lib.hid hs2
      have HK2 := Lib.hid hk2
      clear hs1 hs2 hk1 hk2 hT hK he szk HE HSK
      go_wp2_with fail
      go_roundw
      case rel => exact ⟨k + 1, by omega, by go_num, HK2.out, HS2.out⟩
      case measure => simp [intOf]; omega
    · obtain rfl : m = k := by omega
      replace H3 := Lib.hid (H3.out.kp hK (by simp))
      replace HW := Lib.hid (HW.out.trans (hK.below (B := w.heap.size) (by have := HSZ1.out; omega) (by simp)))
      have HV := Lib.hid hT
      have sV := szk
      clear hK hT szk
      go_wp2_with (first
        | (refine load_tb (T := mvK true (q : Int) D.f (T.setVer (T.ver + 1)) m) rfl rfl rfl HV.out sV ?_)
        | (refine store_tb (U := mvK true (q : Int) D.f (T.setVer (T.ver + 1)) m) rfl rfl rfl rfl H3.out Tb.zero_sz sV ?_))
      have HE := Lib.hid ((H3.out.setRow (mvK true (q : Int) D.f (T.setVer (T.ver + 1)) m)).var sV)
      exact bodyPost_ret (v := .agg ⟨(mvK true (q : Int) D.f (T.setVer (T.ver + 1)) m).list⟩) (results_cell1 Try.results24 rfl HE.out) rfl ⟨by rw [HM.out], below_setRow HW.out (w.heap.size + 2) ⟨(mvK true (q : Int) D.f (T.setVer (T.ver + 1)) m).list⟩ (by omega)⟩

end Go.Proofs.Ytikeiocgnjdhbaa
