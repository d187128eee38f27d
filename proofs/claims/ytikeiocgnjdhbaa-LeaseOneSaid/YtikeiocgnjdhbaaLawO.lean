/- LeaseOne: the walk (gen_lawo.py writes it). -/
import Derived.Test.YtikeiocgnjdhbaaOn
import Derived.Test.YtikeiocgnjdhbaaArg
namespace Go.Proofs.Ytikeiocgnjdhbaa
open Go.RowKit Go.Sort
set_option linter.unusedVariables false
set_option linter.unusedSimpArgs false
set_option maxRecDepth 100000

/-- what the law asks of a step: U behind T; top: the greatest incarnation so far; e: the error; tk: is a place taken -/
structure OneOk (T U : Tb) (top e kind f z : Int) : Prop where
  same : ¬ e = 0 → U = T
  ver : e = 0 → U.ver = T.ver + 1
  yes : ∀ p : Nat, p < 64 → (e = 0 ∧ kind = 3 ∧ hasB f z (p : Int) = true) → top < U.i p
  no : ∀ p : Nat, p < 64 → ¬ (e = 0 ∧ kind = 3 ∧ hasB f z (p : Int) = true) → U.i p = T.i p
theorem one_ok {T : Tb} (h : T.Ok) (D : Dc) {top : Int} (ht : top ≤ T.ver) : OneOk T (apT T D) top (refuse T D) D.kind D.f D.z := by
  unfold apT
  by_cases h0 : refuse T D = 0
  · rw [if_pos h0]
    have d := did h.sz h0
    refine ⟨fun x => absurd h0 x, fun _ => d.ver, fun p hp hh => ?_, fun p hp hh => ?_⟩
    · rw [d.i p hp, hh.2.1, hh.2.2]; simp; omega
    · rw [d.i p hp, if_neg]
      intro hx
      rw [Bool.and_eq_true, decide_eq_true_eq] at hx
      exact hh ⟨h0, hx.1, hx.2⟩
  · rw [if_neg h0]
    exact ⟨fun _ => rfl, fun x => absurd x h0, fun p hp hh => absurd hh.1 h0, fun p hp _ => rfl⟩

set_option maxHeartbeats 12000000 in
theorem leaseOne_law (a : Int) (wa : (Lit.int .i64 a).wf = true) (ao : Option Addr) (n cap : Nat) (hc : n ≤ cap) (hm : n ≤ 140737488355328) (w : World) (hr : DcsRd w ao n) :
    Calls Try.prog 4 #[.int .i64 a, .slice ao n cap] w (LawOk w) := by
  have ha := bounds_i64 wa
  have HR := Lib.hid hr
  have hni : (n : Int) ≤ 140737488355328 := by omega
  clear wa hc hm hr
  have hz := zero_run
  go_enter Try.func4, Try.ntmps4
  go_upto_if 20 with (fail)
  go_cut [0] from 19 to 23 (fun s wx => ∃ r : Nat, s = .int .i64 (r : Int) ∧ r ≤ 9223372036854775807 ∧ w = wx)
  case first =>
    as_aux_lemma =>
      by_cases h0 : a < 0
      · obtain ⟨r, hr⟩ : ∃ r : Nat, (r : Int) = -(a + 1) := ⟨(-(a + 1)).toNat, by omega⟩
        have e0 : decide (a < 0) = true := by simpa using h0
        go_wp2_with fail
        go_meet
        case rel => exact ⟨r, by rw [hr], by omega, rfl⟩
      · obtain ⟨r, rfl⟩ : ∃ r : Nat, a = r := ⟨a.toNat, by omega⟩
        have e0 : decide ((r : Int) < 0) = false := by simp
        go_wp2_with fail
        go_meet
        case rel => exact ⟨r, rfl, by omega, rfl⟩
  case rest =>
    obtain ⟨r, rfl, hr, rfl⟩ := hcut
    clear ha hr
    obtain ⟨m9, em9, hm9⟩ : ∃ m : Nat, r % 9 = m ∧ m < 9 := ⟨_, rfl, Nat.mod_lt _ (by omega)⟩
    have t1 : (r : Int).tmod 9 = (m9 : Int) := by rw [Int.tmod_eq_emod_of_nonneg (by omega)]; omega
    have u1 : (r : Int) % 9 = (m9 : Int) := by omega
    obtain ⟨m0, hm0⟩ : ∃ n : Nat, n = 4 + m9 := ⟨_, rfl⟩
    have v1 : (4 : Int) + (m9 : Int) = (m0 : Int) := by omega
    have n0 : 4 ≤ m0 := by omega
    have n1 : m0 ≤ 12 := by omega
    have hn12 : (m0 : Int) ≤ 12 := by omega
    clear hm0 em9
    have NW := Lib.hid (fun w => new_yes m0 n0 n1 w)
    go_wp2_with fail
    refine (NW.out _).mono ?_
    rintro e w1 ⟨rfl, l1⟩
    obtain ⟨h2, l2, hlt2⟩ := laid_tb (w := w1) (T := newT m0) (U := Tb.zero)
    have H1 := Lib.hid (TbR.new w1 Tb.zero)
    have HT := Lib.hid h2
    have HOK := Lib.hid (newT_ok m0 n0 n1)
    have HVer : Hid ((newT m0).ver = 1) := Lib.hid rfl
    have sT := newT_sz m0
    have HW := Lib.hid (below_next l1 l2)
    have hwT := l1.size
    clear h2 l2 l1 NW t1 u1 v1
    generalize newT m0 = T0 at *
    go_upto_region 4 with (first
      | (refine store_tb (U := T0) rfl rfl rfl rfl H1.out Tb.zero_sz sT ?_))
    clear H1
    generalize (w1.alloc (.cells ⟨Tb.zero.list⟩ 29)).setRow w1.heap.size ⟨T0.list⟩ = w2 at *
    generalize w1.heap.size = bT at *
    go_wp2_with fail
    refine (alive_any _).mono ?_
    rintro e w5 ⟨rfl, l5⟩
    replace HT := Lib.hid (HT.out.keep l5)
    replace HW := Lib.hid (below_next HW.out l5)
    have hbT5 : bT < w5.heap.size := HT.out.lt
    clear l5 hlt2 n0 n1 hn12 hm9
    go_wp2_with fail
    go_loopw [7, 8, 9, 10, 11, 12, 13, 14, 15, 16, 17, 18] (fun tp i _ _ _ _ _ _ _ _ _ _ wr => ∃ (k : Nat) (T : Tb) (top : Int), k ≤ 300 ∧ i = .int .i64 (k : Int) ∧ tp = .int .u32 top ∧ 0 ≤ top ∧ top ≤ T.ver ∧ T.Ok ∧ TbR wr bT T ∧ Keep [bT] w5 wr) (fun _ i _ _ _ _ _ _ _ _ _ _ _ => 300 - (intOf i).toNat)
    case atStart => exact ⟨0, _, 1, Nat.zero_le _, rfl, rfl, by omega, by rw [HVer.out]; omega, HOK.out, HT.out, Keep.refl _ _⟩
    case round =>
      obtain ⟨k, T, top, hk, rfl, rfl, htop0, htop, hok, hT, hK⟩ := hrel
      clear HT HOK sT HVer
      have HT := Lib.hid hT
      have HK := Lib.hid hK
      have HOK := Lib.hid hok
      have HWr := Lib.hid (HW.out.trans (hK.below (B := w.heap.size) (by omega) (by simp; omega)))
      have hbTr : bT < wr.heap.size := hT.lt
      have sT := hok.sz
      have HTOP := Lib.hid htop
      have htm : top ≤ 2147483647 := by have := hok.v1; omega
      clear hT hK hok htop
      obtain ⟨cb, hcb⟩ : ∃ cb : Bool, cb = (decide ((k : Int) < (n : Int)) && decide ((k : Int) < 300)) := ⟨_, rfl⟩
      have HCB := Lib.hid hcb
      clear hcb
      go_upto_region 8 with (fail)
      go_cut [44] from 37 to 43 (fun s wx => s = .bool cb ∧ wr = wx)
      case first =>
        as_aux_lemma =>
          have h := HCB.out
          by_cases h1 : k < n
          · have e1 : decide ((k : Int) < (n : Int)) = true := by simpa using h1
            by_cases h2 : k < 300
            · have e2 : decide ((k : Int) < 300) = true := by simp; omega
              rw [e1, e2] at h
              obtain rfl : cb = true := by simpa using h
              clear h HCB
              go_wp2_with fail
              go_meet
              case rel => exact ⟨rfl, rfl⟩
            · have e2 : decide ((k : Int) < 300) = false := by simp; omega
              rw [e1, e2] at h
              obtain rfl : cb = false := by simpa using h
              clear h HCB
              go_wp2_with fail
              go_meet
              case rel => exact ⟨rfl, rfl⟩
          · have e1 : decide ((k : Int) < (n : Int)) = false := by simp; omega
            rw [e1] at h
            obtain rfl : cb = false := by simpa using h
            clear h HCB
            go_wp2_with fail
            go_meet
            case rel => exact ⟨rfl, rfl⟩
      case rest =>
        obtain ⟨rfl, rfl⟩ := hcut
        cases cb
        · clear HCB
          go_wp2_with fail
          go_ret
          exact ⟨rfl, HWr.out⟩
        · skip
          have hcb := HCB.out
          obtain ⟨hkn, hk1⟩ : k < n ∧ k < 300 := by simp at hcb; omega
          clear hcb HCB
          obtain ⟨g, o, D, rfl, hg0, w0, w1', hrg⟩ := HR.out k hkn
          have hg := Nat.lt_of_lt_of_le hg0 HWr.out.size
          have hkc : (k : Int) < (n : Int) := by omega
          have cell : ∀ j v, D.cells.toList[j]? = some v → wr.cell? ⟨g, o + k * 7 + j, none⟩ = some v := fun j v hv => (HWr.out.cell (p := ⟨g, o + k * 7 + j, none⟩) hg0).trans (hrg j v hv)
          have x0 : wr.cell? ⟨g, o + k * 7, none⟩ = some (.int .i64 D.kind) := cell 0 _ rfl; have x1 := cell 1 _ rfl; have x2 := cell 2 _ rfl; have x3 := cell 3 _ rfl; have x4 := cell 4 _ rfl; have x5 := cell 5 _ rfl; have x6 := cell 6 _ rfl
          clear cell hrg
          have AP := Lib.hid (apply_any T sT D (by have := HOK.out.v0; omega) HOK.out.r w0 w1')
          have hokV := Lib.hid (apT_ok HOK.out D w0 w1')
          have sV := apT_sz sT D
          have ONE := Lib.hid (one_ok HOK.out D HTOP.out)
          unfold apR at AP
          generalize apT T D = V at *
          generalize refuse T D = y at *
          clear w0 w1'
          go_upto_region 11 with (fail)
          clear x0 x1 x2 x3 x4 x5 x6
          have hD := DcR.new wr D
          have hl := below_alloc (Below.refl wr.heap.size wr) (.cells D.cells 39)
          replace HT := Lib.hid (HT.out.keep hl)
          replace HK := Lib.hid (HK.out.trans (Keep.of_below hl [bT]))
          have hbD : wr.heap.size < (wr.alloc (.cells D.cells 39)).heap.size := by simp
          generalize wr.alloc (.cells D.cells 39) = w6 at *
          generalize wr.heap.size = bD at *
          have k0 : w6.cell? ⟨bD, 0, none⟩ = some (.int .i64 D.kind) := hD.kk
          have k1 : w6.cell? ⟨bD, 1, none⟩ = some (.int .i64 D.node) := hD.nn
          have k2 : w6.cell? ⟨bD, 2, none⟩ = some (.int .i64 D.by_) := hD.bb
          have k3 : w6.cell? ⟨bD, 3, none⟩ = some (.int .i64 D.f) := hD.ff
          have k4 : w6.cell? ⟨bD, 4, none⟩ = some (.int .i64 D.z) := hD.zz
          have k5 : w6.cell? ⟨bD, 5, none⟩ = some (.int .u32 D.cnt) := hD.cc
          have k6 : w6.cell? ⟨bD, 6, none⟩ = some (.int .u32 D.seen) := hD.ss
          have HD := Lib.hid hD
          clear hD hl hg hg0 HWr
          go_wp2_with (first
            | (refine load_tb (T := T) rfl rfl rfl HT.out sT ?_))
          refine (AP.out _).mono ?_
          rintro e w7 ⟨rfl, l7⟩
          obtain ⟨h2, l2, hlt2⟩ := laid_tb (w := w7) (T := V) (U := Tb.zero)
          have H1 := Lib.hid (TbR.new w7 Tb.zero)
          have HU := Lib.hid h2
          replace HT := Lib.hid ((HT.out.keep l7).keep l2)
          replace HD := Lib.hid ((HD.out.keep l7).keep l2)
          replace HK := Lib.hid ((HK.out.trans (Keep.of_below l7 [bT])).trans (Keep.of_below l2 [bT]))
          have hbU : bT < w7.heap.size := Nat.lt_of_lt_of_le (by omega) l7.size
          clear h2 l2 l7 AP k0 k1 k2 k3 k4 k5 k6 hlt2
          go_upto_region 12 with (first
            | (refine store_tb (U := V) rfl rfl rfl rfl H1.out Tb.zero_sz sV ?_))
          clear H1
          generalize (w7.alloc (.cells ⟨Tb.zero.list⟩ 29)).setRow w7.heap.size ⟨V.list⟩ = w8 at *
          generalize w7.heap.size = bU at *
          have hT8 : bT < w8.heap.size := HT.out.lt
          have hU8 : bU < w8.heap.size := HU.out.lt
          have hD8 : bD < w8.heap.size := HD.out.lt
          clear hbD
          go_cut [75] from 57 to 74 (fun s wx => s = .bool false ∧ w8 = wx)
          case first =>
            as_aux_lemma =>
              by_cases hy : y = 0
              · have cU := HU.out.ver
                have cT := HT.out.ver
                rw [ONE.out.ver hy] at cU
                have hv1 := hokV.out.v1
                rw [ONE.out.ver hy] at hv1
                have hv0 := HOK.out.v0
                have wv : IntKind.u32.wrap (T.ver + 1) = T.ver + 1 := by rw [IntWalk.u32_in _ (by omega)]
                clear ONE HTOP hokV HOK
                subst hy
                generalize T.ver = tv at *
                go_wp2_with fail
                go_meet
                case rel => exact ⟨rfl, rfl⟩
              · have hV := ONE.out.same hy
                have hyn : (y != 0) = true := by simpa using hy
                have hyf : (y == 0) = false := by simpa using hy
                have NT := Lib.hid (fun w => neq_tb sT w)
                clear ONE HTOP hokV HOK
                subst hV
                go_wp2_with (first
                  | (refine load_tbw (T := V) rfl rfl HU.out sV ?_ ?_; · simp [Region.wanted, yielded, Act.put, hyn])
                  | (refine load_tbw (T := V) rfl rfl HT.out sV ?_ ?_; · simp [Region.wanted, yielded, Act.put, hyn])
                  | (refine wpList_wanted (by simp [Region.wanted, yielded, Act.put, hyn]) _ (exec_bin .neq 29 29 (.tmp 60) (.tmp 61) rfl rfl rfl (NT.out _) (run_eqGuard_agg _ _ _ _ _ _ _ (by kernel_rfl))) ?_))
                go_meet
                case rel => exact ⟨rfl, rfl⟩
          case rest =>
            obtain ⟨rfl, rfl⟩ := hcut
            go_wp2_with fail
            go_loopw [12, 13] (fun i _ wr => ∃ k2 : Nat, k2 ≤ 64 ∧ i = .int .i64 (k2 : Int) ∧ Below w8.heap.size w8 wr) (fun i _ _ => 64 - (intOf i).toNat)
            case atStart => exact ⟨0, Nat.zero_le _, rfl, Below.refl _ _⟩
            case round =>
              obtain ⟨p, hp, rfl, hb⟩ := hrel
              have HB := Lib.hid hb
              clear hb
              by_cases hlt : p < 64
              · as_aux_lemma =>
                  have HUk := Lib.hid (HU.out.keep HB.out)
                  have HTk := Lib.hid (HT.out.keep HB.out)
                  have HDk := Lib.hid (HD.out.keep HB.out)
                  obtain ⟨q, hq, hq12, hqm⟩ := hokV.out.o p hlt
                  have cO := HUk.out.own sV hlt
                  rw [hq] at cO
                  have cM := HUk.out.mem sV hq12
                  rw [hqm] at cM
                  have e12 : decide ((q : Int) < 0) = false := by simp
                  have e13 : decide (12 ≤ (q : Int)) = false := by simp; omega
                  clear hq hqm
                  go_upto_region 19 with (fail)
                  clear cO cM e12 e13
                  have ck := HDk.out.kk
                  have cf := HDk.out.ff
                  have cz := HDk.out.zz
                  go_cut [13] from 76 to 114 (fun s wx => ∃ tk : Bool, s = .bool tk ∧ (tk = true ↔ (y = 0 ∧ D.kind = 3 ∧ hasB D.f D.z (p : Int) = true)) ∧ Below wr.heap.size wr wx)
                  case first =>
                    as_aux_lemma =>
                      by_cases hy : y = 0
                      · have hyt : (y == 0) = true := by simpa using hy
                        by_cases hk3 : D.kind = 3
                        · have HKD := Lib.hid hk3
                          rw [hk3] at ck
                          have CH := Lib.hid (has_any D.f D.z (p : Int))
                          have HY := Lib.hid hy
                          clear hk3 ONE hy
                          go_wp2_with fail
                          refine (CH.out _).mono ?_
                          rintro e wx ⟨rfl, lx⟩
                          have LX := Lib.hid lx
                          clear lx ck cf cz
                          generalize hh : hasB D.f D.z (p : Int) = hb at *
                          have HH := Lib.hid hh
                          clear hh
                          go_wp2_with fail
                          go_meet
                          case rel => exact ⟨hb, rfl, by simp [HKD.out, HY.out], LX.out⟩
                        · have hkf : (D.kind == (3 : Int)) = false := by simpa using hk3
                          have HK3 := Lib.hid hk3
                          clear ONE hy hk3
                          go_wp2_with fail
                          go_meet
                          case rel => exact ⟨false, rfl, by simp [HK3.out], Below.refl _ _⟩
                      · have hyf : (y == 0) = false := by simpa using hy
                        clear ONE
                        go_wp2_with fail
                        go_meet
                        case rel => exact ⟨false, rfl, by simp [hy], Below.refl _ _⟩
                  case rest =>
                    obtain ⟨tk, rfl, htk, hl⟩ := hcut
                    have cI := (HUk.out.keep hl).inc sV hlt
                    have cJ := (HTk.out.keep hl).inc sT hlt
                    replace HB := Lib.hid (below_next HB.out hl)
                    clear hl ck cf cz
                    cases tk
                    · have hno := ONE.out.no p hlt (fun h => by have := htk.2 h; cases this)
                      rw [hno] at cI
                      clear hno htk
                      generalize T.i p = x at *
                      go_upto_region 20 with (fail)
                      replace cI := cell_regrown cI
                      replace cJ := cell_regrown cJ
                      refine wp_region_quiet_below (by kernel_rfl) (by kernel_rfl) ?_
                      repeat (go_big_quiet_step (fail))
                      refine wpQuiet_nil ?_
                      intro _ hw'
                      obtain ⟨⟨dq, osq⟩, hw''⟩ := hw'
                      subst hw''
                      have lk := below_regrown wc dq osq
                      replace HB := Lib.hid (below_next HB.out lk)
                      generalize grow (redrawn wc dq) osq = wy at *
                      clear lk cI cJ
                      go_wp2_with fail
                      go_roundw
                      case rel => exact ⟨p + 1, by omega, by go_num, HB.out⟩
                      case measure => simp [intOf]; omega
                    · have hyes := ONE.out.yes p hlt (htk.1 rfl)
                      clear htk
                      generalize V.i p = x at *
                      have hle : decide (x ≤ top) = false := by simp; omega
                      go_upto_region 20 with (fail)
                      replace cI := cell_regrown cI
                      replace cJ := cell_regrown cJ
                      refine wp_region_quiet_below (by kernel_rfl) (by kernel_rfl) ?_
                      repeat (go_big_quiet_step (fail))
                      refine wpQuiet_nil ?_
                      intro _ hw'
                      obtain ⟨⟨dq, osq⟩, hw''⟩ := hw'
                      subst hw''
                      have lk := below_regrown wc dq osq
                      replace HB := Lib.hid (below_next HB.out lk)
                      generalize grow (redrawn wc dq) osq = wy at *
                      clear lk cI cJ
                      go_wp2_with fail
                      go_roundw
                      case rel => exact ⟨p + 1, by omega, by go_num, HB.out⟩
                      case measure => simp [intOf]; omega
              · obtain rfl : 64 = p := by omega
                rw [show (((64 : Nat) : Int)) = 64 from rfl]
                clear hp hlt
                have HTV := Lib.hid (show top ≤ V.ver from by
                  by_cases hy : y = 0
                  · have h1 := ONE.out.ver hy; have h2 := HTOP.out; omega
                  · rw [ONE.out.same hy]; exact HTOP.out)
                have HVM := Lib.hid (fun p hp => (hokV.out.i p hp).2)
                have HVI := Lib.hid (fun p hp => (hokV.out.i p hp).1)
                clear ONE HTOP
                obtain ⟨w9, hw9⟩ : ∃ x, x = wr := ⟨_, rfl⟩
                rw [← hw9] at HB ⊢
                clear hw9
                go_wp2_with fail
                go_loopw [7, 14] (fun tp i wr => ∃ (k3 : Nat) (tp' : Int), k3 ≤ 64 ∧ i = .int .i64 (k3 : Int) ∧ tp = .int .u32 tp' ∧ 0 ≤ tp' ∧ tp' ≤ V.ver ∧ Below w8.heap.size w8 wr) (fun _ i _ => 64 - (intOf i).toNat)
                case atStart => exact ⟨0, top, Nat.zero_le _, rfl, rfl, htop0, HTV.out, HB.out⟩
                case round =>
                  obtain ⟨p, tp', hp, rfl, rfl, htp0, htp, hb⟩ := hrel
                  clear HB
                  have HB := Lib.hid hb
                  have HTP := Lib.hid htp
                  clear hb htp
                  by_cases hlt : p < 64
                  · as_aux_lemma =>
                      have cI := (HU.out.keep HB.out).inc sV hlt
                      have hx := HVM.out p hlt
                      have HXX := Lib.hid hx
                      clear hx
                      generalize V.i p = x at *
                      have hmx : (if tp' < x then x else tp') ≤ V.ver := by have h1 := HTP.out; have h2 := HXX.out; split <;> omega
                      have hm0 : 0 ≤ (if tp' < x then x else tp') := by split <;> omega
                      have HM0 := Lib.hid hm0
                      clear hm0
                      have HMX := Lib.hid hmx
                      clear hmx
                      go_wp2_with fail
                      go_roundw
                      case rel => exact ⟨p + 1, (if tp' < x then x else tp'), by omega, by go_num, rfl, HM0.out, HMX.out, HB.out⟩
                      case measure => simp [intOf]; omega
                  · obtain rfl : 64 = p := by omega
                    rw [show (((64 : Nat) : Int)) = 64 from rfl]
                    clear hp hlt
                    have H64 := Lib.hid (all_64 hokV.out)
                    have HLE := Lib.hid (fun k => sumN_le V k)
                    obtain ⟨w9, hw9⟩ : ∃ x, x = wr := ⟨_, rfl⟩
                    rw [← hw9] at HB ⊢
                    clear hw9
                    go_wp2_with fail
                    go_loopw [15, 16, 17, 18] (fun c i _ _ wr => ∃ k4 : Nat, k4 ≤ 12 ∧ i = .int .i64 (k4 : Int) ∧ c = .int .i64 ((sumN (fun n => sizes (ofL (ownL V (n : Int)))) k4 : Nat) : Int) ∧ Below w8.heap.size w8 wr) (fun _ i _ _ _ => 12 - (intOf i).toNat)
                    case atStart => exact ⟨0, Nat.zero_le _, rfl, rfl, HB.out⟩
                    case round =>
                      obtain ⟨q, hq, rfl, rfl, hb⟩ := hrel
                      clear HB
                      have HB := Lib.hid hb
                      clear hb
                      by_cases hlt : q < 12
                      · as_aux_lemma =>
                          have HUk := Lib.hid (HU.out.keep HB.out)
                          have hs1 := HLE.out q
                          have hs2 := HLE.out (q + 1)
                          have hst : sumN (fun n => sizes (ofL (ownL V (n : Int)))) (q + 1) = sumN (fun n => sizes (ofL (ownL V (n : Int)))) q + sizes (ofL (ownL V (q : Int))) := rfl
                          have OW := Lib.hid (fun w => owned_any V sV (q : Int) w)
                          have hl64 := ofL_length (ownL V (q : Int))
                          rw [hst] at hs2
                          have HST := Lib.hid hst
                          clear hst
                          generalize sumN (fun n => sizes (ofL (ownL V (n : Int)))) q = base at *
                          generalize ofL (ownL V (q : Int)) = LL at *
                          go_wp2_with (first
                            | (refine load_tb (T := V) rfl rfl rfl HUk.out sV ?_))
                          refine (OW.out _).mono ?_
                          rintro e wo ⟨v, rfl, hown, lo⟩
                          obtain ⟨ax, cx, rfl, sx⟩ := made_arcs hown
                          have SX := Lib.hid sx
                          have HBo := Lib.hid (below_next HB.out lo)
                          clear hown sx lo
                          have HTK := Lib.hid (fun j => sizes_take_le LL j)
                          have HTA := Lib.hid (fun j hj => sizes_take LL j hj)
                          have hll : (LL.length : Int) ≤ 64 := by omega
                          go_wp2_with fail
                          go_loopw [15, 18] (fun c j wr => ∃ j5 : Nat, j5 ≤ LL.length ∧ j = .int .i64 (j5 : Int) ∧ c = .int .i64 ((base + sizes (LL.take j5) : Nat) : Int) ∧ Below wo.heap.size wo wr) (fun _ j _ => LL.length - (intOf j).toNat)
                          case atStart => exact ⟨0, Nat.zero_le _, rfl, rfl, Below.refl _ _⟩
                          case round =>
                            obtain ⟨j, hj, rfl, rfl, hb⟩ := hrel
                            have HBj := Lib.hid hb
                            clear hb
                            by_cases hlj : j < LL.length
                            · obtain ⟨g9, rfl, hg9, hc0, hc1⟩ := (SX.out.below HBj.out) j hlj
                              have hta := HTA.out j hlj
                              have htk := HTK.out (j + 1)
                              have hs9 : sizeOf_ LL j = (((atL LL j).2 : Nat) : Int) := rfl
                              rw [hs9] at hc1
                              have hji : (j : Int) < (LL.length : Int) := by omega
                              rw [hta] at htk
                              have HTAJ := Lib.hid hta
                              clear hs9 hta hc0 hg9
                              generalize (atL LL j).2 = sj at *
                              generalize hsz : sizes (LL.take j) = sz at *
                              have hsum : ((base + sz : Nat) : Int) + (sj : Int) = ((base + (sz + sj) : Nat) : Int) := by omega
                              have hw64 : IntKind.i64.wrap (((base + sz : Nat) : Int) + (sj : Int)) = ((base + (sz + sj) : Nat) : Int) := by rw [IntWalk.i64_in _ (by omega)]; exact hsum
                              have HSZ := Lib.hid hsz
                              clear hsz
                              have hb0 : 0 ≤ ((base + (sz + sj) : Nat) : Int) := by omega
                              have hb1 : ((base + (sz + sj) : Nat) : Int) ≤ 9223372036854775807 := by omega
                              generalize hbz : ((base + sz : Nat) : Int) = bz at *
                              generalize hbs : ((base + (sz + sj) : Nat) : Int) = bs at *
                              have HBS := Lib.hid hbs
                              clear hbz hbs htk
                              go_wp2_with fail
                              go_roundw
                              case rel => exact ⟨j + 1, by omega, by go_num, by rw [HTAJ.out, HBS.out], HBj.out⟩
                              case measure => simp [intOf]; omega
                            · obtain rfl : LL.length = j := by omega
                              have HBf := Lib.hid (below_next HBo.out HBj.out)
                              have htl : LL.take LL.length = LL := List.take_length
                              have HTL := Lib.hid htl
                              clear htl
                              go_wp2_with fail
                              go_roundw
                              case rel => exact ⟨q + 1, by omega, by go_num, by rw [HST.out, HTL.out], HBf.out⟩
                              case measure => simp [intOf]; omega
                      · obtain rfl : 12 = q := by omega
                        rw [show (((12 : Nat) : Int)) = 12 from rfl]
                        clear hq hlt
                        have h64 := H64.out
                        have HT9 := Lib.hid (HT.out.keep HB.out)
                        have HU9 := Lib.hid (HU.out.keep HB.out)
                        have HK9 := Lib.hid (HK.out.trans (Keep.of_below HB.out [bT]))
                        have HTR := Lib.hid (HT9.out.setRow V)
                        have HKR := Lib.hid (HK9.out.trans (Keep.setRow wr bT ⟨V.list⟩))
                        rw [h64]
                        clear h64 HB
                        go_wp2_with (first
                          | (refine load_tb (T := V) rfl rfl rfl HU9.out sV ?_)
                          | (refine store_tb (U := V) rfl rfl rfl rfl HT9.out sT sV ?_))
                        go_roundw
                        case rel => exact ⟨k + 1, V, tp', by omega, by go_num, rfl, htp0, HTP.out, hokV.out, HTR.out, HKR.out⟩
                        case measure => simp [intOf]; omega
end Go.Proofs.Ytikeiocgnjdhbaa
