/- ProposerAdopts. -/
import Derived.Test.YtgfalpiifgoonaaAd
import Derived.Deep.CutRange
namespace Go.Proofs.Ytgfalpiifgoonaa
open Go.RowKit Go.Sort
set_option linter.unusedVariables false
set_option linter.unusedSectionVars false
set_option linter.unusedSimpArgs false
set_option maxRecDepth 100000

/-- the law's proposer, its ballot, who was seen, what it holds to be the greatest -/
structure DM (W w : World) (hn gm N : Nat) (s : Pst) (bb sn tp : Nat) (f : Nat → Bool) (top : Bl) : Prop where
  p : Pr w W.heap.size hn gm 3 N s
  bl : Row2 w bb b73
  se : Row9 w sn f
  tt : Row2 w tp top
  bel : Below W.heap.size W w
  lo : hn < bb ∧ gm < bb ∧ W.heap.size ≤ bb ∧ bb < sn ∧ sn < tp
section
variable {W w w' : World} {hn gm N bb sn tp : Nat} {s s' : Pst} {f : Nat → Bool} {top : Bl}
theorem DM.below (h : DM W w hn gm N s bb sn tp f top) (b : Below w.heap.size w w') : DM W w' hn gm N s bb sn tp f top :=
  ⟨h.p.below b, Row2.below h.bl b, Row9.below h.se b, Row2.below h.tt b, h.bel.trans (b.mono h.bel.size), h.lo⟩
theorem DM.turn (h : DM W w hn gm N s bb sn tp f top) (hp : Pr w' W.heap.size hn gm 3 N s') (k : Keep [hn, gm] w w') : DM W w' hn gm N s' bb sn tp f top :=
  have hl := h.lo
  ⟨hp, row_keep h.bl k (by simp; omega), row_keep h.se k (by simp; omega), row_keep h.tt k (by simp; omega), h.bel.trans (PrW.out h.p k h.bel.size), h.lo⟩
theorem DM.see (h : DM W w hn gm N s bb sn tp f top) (j : Nat) (hj : j < 9) : DM W (w.setCell ⟨sn, j, none⟩ (.bool true)) hn gm N s bb sn tp (wth f j) top :=
  have hl := h.lo
  have k := Keep.setCell w ⟨sn, j, none⟩ (.bool true)
  ⟨h.p.keep k (by simp; omega) (by simp; omega), row_keep h.bl k (by simp; omega), Row9.set h.se j hj, row_keep h.tt k (by simp; omega), h.bel.trans (k.below h.bel.size (by simp; omega)), h.lo⟩
theorem DM.lay (h : DM W w hn gm N s bb sn tp f top) (t : Bl) : DM W (lay2 w tp t) hn gm N s bb sn tp f t :=
  have hl := h.lo
  have k := lay2_keep w tp t
  ⟨h.p.keep k (by simp; omega) (by simp; omega), row_keep h.bl k (by simp; omega), row_keep h.se k (by simp; omega), heap_setCell_same _ tp 1 _ _ _ (heap_setCell_same w tp 0 _ _ _ h.tt), h.bel.trans (k.below h.bel.size (by simp; omega)), h.lo⟩
theorem dKeep {bb g o k : Nat} {A : Ac} {T : List Nat} (h : w.cell? ⟨bb, 0, none⟩ = some (.int .u32 7) ∧ w.cell? ⟨bb, 1, none⟩ = some (.int .u8 3) ∧ w.cell? ⟨g, o + k * 5 + 1, none⟩ = some (.bool A.is) ∧ w.cell? ⟨g, o + k * 5 + 2, none⟩ = some (.int .u32 A.b.round) ∧ w.cell? ⟨g, o + k * 5 + 3, none⟩ = some (.int .u8 A.b.node) ∧ w.cell? ⟨g, o + k * 5 + 4, none⟩ = some (.string A.v) ∧ bb < w.heap.size ∧ g < w.heap.size) (kk : Keep T w w') (hn : bb ∉ T ∧ g ∉ T) :
    w'.cell? ⟨bb, 0, none⟩ = some (.int .u32 7) ∧ w'.cell? ⟨bb, 1, none⟩ = some (.int .u8 3) ∧ w'.cell? ⟨g, o + k * 5 + 1, none⟩ = some (.bool A.is) ∧ w'.cell? ⟨g, o + k * 5 + 2, none⟩ = some (.int .u32 A.b.round) ∧ w'.cell? ⟨g, o + k * 5 + 3, none⟩ = some (.int .u8 A.b.node) ∧ w'.cell? ⟨g, o + k * 5 + 4, none⟩ = some (.string A.v) ∧ bb < w'.heap.size ∧ g < w'.heap.size :=
  have h7 := h.2.2.2.2.2.2
  ⟨(kk.cell h7.1 hn.1).trans h.1, (kk.cell h7.1 hn.1).trans h.2.1, (kk.cell h7.2 hn.2).trans h.2.2.1, (kk.cell h7.2 hn.2).trans h.2.2.2.1, (kk.cell h7.2 hn.2).trans h.2.2.2.2.1, (kk.cell h7.2 hn.2).trans h.2.2.2.2.2.1, Nat.lt_of_lt_of_le h7.1 kk.size, Nat.lt_of_lt_of_le h7.2 kk.size⟩
end
theorem eql_bn {a b : Bl} (h : ¬ a = b) (w : World) : (binOp .eql 34 (.agg #[.int .u32 a.round, .int .u8 a.node]) (.agg #[.int .u32 b.round, .int .u8 b.node])).run Try.prog w = .ok (.bool false) w := by
  rw [eql_bl]
  obtain ⟨a, b⟩ := a
  rename_i bb
  obtain ⟨c, d⟩ := bb
  by_cases h1 : a = c <;> by_cases h2 : b = d <;> simp_all
theorem eql_b1 (a : Bl) (w : World) : (binOp .eql 34 (.agg #[.int .u32 a.round, .int .u8 a.node]) (.agg #[.int .u32 a.round, .int .u8 a.node])).run Try.prog w = .ok (.bool true) w := by
  rw [eql_bl]; simp
set_option maxHeartbeats 32000000 in
theorem proposerAdopts_law (n0 : Int) (wn0 : (Lit.int .i64 n0).wf = true) (ao : Option Addr) (len cap : Nat) (hc : len ≤ cap) (hm : cap ≤ maxLen) (W : World) (hr : TosRd W ao len) :
    Calls Try.prog 6 #[.int .i64 n0, .slice ao len cap] W (LawOk W) := by
  obtain ⟨sc, hsc⟩ := hr.fn
  have HSC := Lib.hid hsc
  have hlen : (len : Int) ≤ 9223372036854775807 := by unfold maxLen at hm; omega
  have CP := Lib.hid (fun w => pick_any n0 wn0 9 (by omega) (by omega) w)
  have hp9 := pk_lt n0 (n := 9) (by omega)
  generalize pk n0 9 = p at *
  obtain ⟨N, hN⟩ : ∃ N, N = 1 + p := ⟨_, rfl⟩
  have hNi : 1 + (p : Int) = (N : Int) := by omega
  have hN1 : 1 ≤ N := by omega
  have hN9 : N ≤ 9 := by omega
  have hpi : (p : Int) ≤ 8 := by omega
  have HL := Lib.hid (fun w => pnew_yes 3 N hN1 hN9 (by omega) w)
  clear hr hc hm hsc wn0 hN hp9
  go_enter Try.func6, Try.ntmps6
  go_wp2_with fail
  refine (CP.out _).mono ?_; rintro e w1 ⟨rfl, rfl⟩
  go_wp2_with fail
  refine (HL.out _).mono ?_; rintro e w2 ⟨hn, gm, rfl, t2, b2⟩
  clear CP HL hNi hpi
  have T2 := Lib.hid t2; have B2 := Lib.hid b2
  clear t2 b2
  go_wp2_with fail
  refine (alive_any _).mono ?_; rintro e w3 ⟨rfl, b3⟩
  have T3 := Lib.hid (T2.out.below b3); have B3 := Lib.hid (below_next B2.out b3)
  clear b3 T2 B2
  have CB := Lib.hid (begin_ok 7 (by decide) (by decide) (by decide) owt (by decide) w3 T3.out)
  go_wp2_with fail
  refine CB.out.mono ?_; rintro e w4 ⟨rfl, t4, k4⟩
  have B4 := Lib.hid (B3.out.trans (PrW.out T3.out k4 B3.out.size))
  have T4 := Lib.hid t4
  clear t4 k4 CB T3 B3
  go_upto_region 13 with (fail)
  obtain ⟨w5, hw5⟩ : ∃ w5, ((w4.alloc (Bl.obj b73)).alloc (.cells ⟨b9 noS⟩ 77)).alloc (Bl.obj b0) = w5 := ⟨_, rfl⟩
  have M5 := Lib.hid (show DM W w5 hn gm N ⟨b73, allS, ⟨false, b0, owt⟩⟩ w4.heap.size (w4.heap.size + 1) (w4.heap.size + 2) noS b0 from by
    rw [← hw5]
    have ba := below_alloc (below_alloc (below_alloc (Below.refl w4.heap.size w4) (Bl.obj b73)) (.cells ⟨b9 noS⟩ 77)) (Bl.obj b0)
    have s1 : (w4.alloc (Bl.obj b73)).heap.size = w4.heap.size + 1 := by simp
    have s2 : ((w4.alloc (Bl.obj b73)).alloc (.cells ⟨b9 noS⟩ 77)).heap.size = w4.heap.size + 2 := by simp
    refine ⟨T4.out.below ba, ?_, ?_, ?_, below_next B4.out ba, T4.out.hlt, T4.out.glt, B4.out.size, by omega, by omega⟩
    · exact ((Row2.new w4 b73).below (below_alloc (Below.refl _ _) _)).below (below_alloc (Below.refl _ _) _)
    · have : Row9 ((w4.alloc (Bl.obj b73)).alloc (.cells ⟨b9 noS⟩ 77)) (w4.alloc (Bl.obj b73)).heap.size noS := heap_alloc_new _ _
      rw [s1] at this
      exact Row9.below this (below_alloc (Below.refl _ _) _)
    · have := Row2.new ((w4.alloc (Bl.obj b73)).alloc (.cells ⟨b9 noS⟩ 77)) b0
      rw [s2] at this
      exact this)
  have hw6 : ((w4.alloc (.cells #[.int .u32 7, .int .u8 3] 34)).alloc (.cells #[.bool false, .bool false, .bool false, .bool false, .bool false, .bool false, .bool false, .bool false, .bool false] 77)).alloc (.cells #[.int .u32 0, .int .u8 0] 34) = w5 := hw5
  rw [hw6]
  clear hw5 hw6 T4 B4
  generalize w4.heap.size = bb at *
  go_wp2_with fail
  go_loopw [10, 12, 13] (fun v10 v12 v13 wr => ∃ (k : Nat) (s : Pst) (f : Nat → Bool) (top : Bl) (sm : Bool), v10 = .int .i64 (cnt N f : Int) ∧ v12 = .bool sm ∧ v13 = .int .i64 (k : Int) ∧ k ≤ len ∧ k ≤ 60 ∧ DM W wr hn gm N s bb (bb + 1) (bb + 2) f top ∧ AI sc N s f top sm k) (fun _ _ v13 _ => len - (intOf v13).toNat)
  case atStart => exact ⟨0, _, noS, b0, false, by rw [cnt_none]; rfl, rfl, rfl, by omega, by omega, M5.out, AI.zero sc N⟩
  case round =>
    obtain ⟨k, s, f, top, sm, rfl, rfl, rfl, hk1, hk2, hM, hV⟩ := hrel
    clear M5
    by_cases hlt : k < len ∧ k < 60
    · obtain ⟨g, o, hao, hq, hg, hat⟩ := HSC.out k hlt.1
      subst hao
      have hlt1 : (k : Int) < (len : Int) := by omega
      have hlt2 : (k : Int) < 60 := by omega
      have hkp : (0 : Int) ≤ (k : Int) := by omega
      have hatw := hat.from hg hM.bel
      have HAT := Lib.hid (fun w' (hb : Below W.heap.size W w') => hat.from hg hb)
      have HV := Lib.hid hV
      have hpk := pk_lt (sc k).from_ hN1
      have CP := Lib.hid (fun w => pick_any (sc k).from_ hq.f N hN1 (by omega) w)
      have HA := Lib.hid (fun w (h : Pr w W.heap.size hn gm 3 N s) => promise_any (b := b73) (a := (sc k).a) (pk (sc k).from_ N : Int) (by simp [Lit.wf, IntKind.min, IntKind.max, IntKind.signed, IntKind.bits]; omega) ⟨by decide, by decide⟩ hq.av w h)
      obtain ⟨q, hqe⟩ : ∃ q, q = sc k := ⟨_, rfl⟩
      have HQE := Lib.hid hqe
      rw [← hqe] at hatw CP HA hpk HAT
      have HGL := Lib.hid (show g < W.heap.size from hg)
      have a0' := hatw 0 _ rfl; have a1 := hatw 1 _ rfl; have a2 := hatw 2 _ rfl; have a3 := hatw 3 _ rfl; have a4 := hatw 4 _ rfl
      rw [Nat.add_zero] at a0'
      have M1 := Lib.hid hM
      have hcl := cnt_le N f
      clear hV hat hq hatw hqe hM
      generalize hkk : pk q.from_ N = kk at *
      have HKK := Lib.hid hkk
      clear hkk
      go_upto_region 15 with (fail)
      go_wp2_with fail
      refine (CP.out _).mono ?_; rintro e w4 ⟨rfl, rfl⟩
      go_upto_region 16 with (fail)
      clear a0' CP
      obtain ⟨y0, y1, _, _⟩ := Row2.all M1.out.bl
      have SS := Lib.hid (show wr.cell? ⟨bb, 0, none⟩ = some (.int .u32 7) ∧ wr.cell? ⟨bb, 1, none⟩ = some (.int .u8 3) ∧ wr.cell? ⟨g, o + k * 5 + 1, none⟩ = some (.bool q.a.is) ∧ wr.cell? ⟨g, o + k * 5 + 2, none⟩ = some (.int .u32 q.a.b.round) ∧ wr.cell? ⟨g, o + k * 5 + 3, none⟩ = some (.int .u8 q.a.b.node) ∧ wr.cell? ⟨g, o + k * 5 + 4, none⟩ = some (.string q.a.v) ∧ bb < wr.heap.size ∧ g < wr.heap.size from ⟨y0, y1, a1, a2, a3, a4, Row2.lt M1.out.bl, by have := HGL.out; have := M1.out.bel.size; omega⟩)
      have HNB := Lib.hid (show bb ∉ [hn, gm] ∧ g ∉ [hn, gm] by
        have := M1.out.lo; have h1 := M1.out.p.base; have h2 := M1.out.p.gbase; have := HGL.out; simp; omega)
      clear y0 y1 a1 a2 a3 a4
      have C := HA.out wr.drew (M1.out.below (Below.refl _ _).drew).p
      simp only [Bl.ag, Ac.ag] at C
      have HC := Lib.hid C
      clear C HA
      have hkk9 : (kk : Int) < 9 := by omega
      have hkk0 : (0 : Int) ≤ (kk : Int) := by omega
      cases hfk : f kk
      · by_cases hd : 2 * cnt N f ≤ N
        · as_aux_lemma =>
            have C := HC.out
            rw [HV.out.counts hd hpk hfk] at C
            obtain ⟨dk, hdk⟩ : ∃ dk, dkB N f = dk := ⟨_, rfl⟩
            have HDK := Lib.hid hdk
            have HIT := Lib.hid (fun (top' : Bl) (sm' : Bool) => HV.out.hit (top' := top') (sm' := sm') hd hpk hfk)
            have HTS := Lib.hid (HV.out.ts hd)
            rw [hdk] at C
            have HIT2 := HIT.out
            simp only [hdk] at HIT2
            obtain ⟨s2, hs2⟩ : ∃ s2 : Pst, (⟨b73, if dk = true then noS else wout s.S kk, wg s.best q.a⟩ : Pst) = s2 := ⟨_, rfl⟩
            obtain ⟨v2, hv2⟩ : ∃ v2 : ByteArray, (if dk = true then (wg s.best q.a).v else nov) = v2 := ⟨_, rfl⟩
            rw [hs2, hv2] at C
            rw [← HQE.out, hs2] at HIT2
            have HI := Lib.hid HIT2
            have HS2 := Lib.hid hs2; have HV2 := Lib.hid hv2
            clear hdk HIT HIT2 hs2 hv2 HC
            simp only at C
            have d1 := SS.out.1; have d2 := SS.out.2.1; have d3 := SS.out.2.2.1; have d4 := SS.out.2.2.2.1; have d5 := SS.out.2.2.2.2.1; have d6 := SS.out.2.2.2.2.2.1; have d7 := SS.out.2.2.2.2.2.2.1; have d8 := SS.out.2.2.2.2.2.2.2
            go_region_held3 (fun w' => w'.cell? ⟨bb, 0, none⟩ = some (.int .u32 7) ∧ w'.cell? ⟨bb, 1, none⟩ = some (.int .u8 3) ∧ w'.cell? ⟨g, o + k * 5 + 1, none⟩ = some (.bool q.a.is) ∧ w'.cell? ⟨g, o + k * 5 + 2, none⟩ = some (.int .u32 q.a.b.round) ∧ w'.cell? ⟨g, o + k * 5 + 3, none⟩ = some (.int .u8 q.a.b.node) ∧ w'.cell? ⟨g, o + k * 5 + 4, none⟩ = some (.string q.a.v) ∧ bb < w'.heap.size ∧ g < w'.heap.size)
              (first | with_reducible assumption | with_reducible exact HS6.out | with_reducible exact dKeep SS.out (Keep.of_below (Below.refl _ wr).drew []) (by simp))
              (first | (go_at_call 14; with_reducible refine C.mono ?_; rintro e w6 ⟨rfl, t6, k6⟩; have HS6 := Lib.hid (dKeep (dKeep SS.out (Keep.of_below (Below.refl _ wr).drew []) (by simp)) k6 HNB.out); have T6 := Lib.hid t6; have K6 := Lib.hid k6; clear t6 k6))
            have M6 := Lib.hid ((M1.out.below (Below.refl _ _).drew).turn T6.out K6.out)
            clear C T6 K6 M1 HS6 SS d1 d2 d3 d4 d5 d6 d7 d8
            obtain ⟨z1, z2⟩ := Row9.at_ M6.out.se kk (by omega)
            rw [hfk] at z1
            have hcw := cnt_wth N f kk hpk hfk
            have HCW := Lib.hid hcw
            have hcN : ((cnt N f : Nat) : Int) ≤ 8 := by omega
            have hc0 : (0 : Int) ≤ ((cnt N f : Nat) : Int) := by omega
            clear hcw
            go_upto_region 22 with (fail)
            have M7 := Lib.hid (M6.out.see kk (by omega))
            clear z1 z2 M6
            generalize w6.setCell ⟨bb + 1, kk, none⟩ (.bool true) = w7 at *
            generalize hc2 : ((cnt N f : Nat) : Int) = c2 at *
            have hatw := HAT.out w7 M7.out.bel
            have a1 := hatw 1 _ rfl; have a2 := hatw 2 _ rfl; have a3 := hatw 3 _ rfl; have a4 := hatw 4 _ rfl
            clear hatw
            have hcle : c2 + 1 ≤ (N : Int) / 2 + 1 := by omega
            have hcd : decide (c2 + 1 ≤ (N : Int) / 2 + 1) = true := decide_eq_true hcle
            have HCL := Lib.hid (show c2 = ((cnt N f : Nat) : Int) from hc2.symm)
            have hcb : c2 ≤ 8 := hcN
            clear hc2
            have hai : q.a.is = false ∨ q.a.is = true := by cases q.a.is <;> simp
            rcases hai with hai | hai
            · rw [hai] at a1
              have TS8 := Lib.hid (HTS.out.no hai)
              clear a2 a3 a4 HTS
              cases hsm : sm
              · subst hsm
                have M8 := M7
                as_aux_lemma =>
                  have hi := HI.out _ _ TS8.out
                  obtain ⟨hA, hown, hfrom⟩ := hi
                  have HA2 := Lib.hid hA
                  clear hA TS8 HI
                  have hdk2 : dk = false ∨ dk = true := by cases dk <;> simp
                  rcases hdk2 with hdk2 | hdk2
                  · subst hdk2
                    have hnn : ¬ c2 = (N : Int) / 2 := by
                      have h1 := HDK.out
                      have h2 := HCL.out
                      unfold dkB at h1
                      have h3 := of_decide_eq_false h1
                      omega
                    have hnb : (c2 == (N : Int) / 2) = false := by simpa using hnn
                    have hnb1 : (c2 + 1 == (N : Int) / 2 + 1) = false := by
                      have : ¬ c2 + 1 = (N : Int) / 2 + 1 := by omega
                      simpa using this
                    clear hown hfrom
                    go_wp2_with fail
                    go_roundw
                    case rel => exact ⟨k + 1, s2, wth f kk, _, _, by rw [HCW.out, HCL.out]; go_num, rfl, by go_num, by omega, by omega, M8.out, HA2.out⟩
                    case measure => simp [intOf]; omega
                  · subst hdk2
                    have hnn : c2 = (N : Int) / 2 := by
                      have h1 := HDK.out
                      have h2 := HCL.out
                      unfold dkB at h1
                      have h3 := of_decide_eq_true h1
                      omega
                    have hnb : (c2 == (N : Int) / 2) = true := by simpa using hnn
                    have hnb1 : (c2 + 1 == (N : Int) / 2 + 1) = true := by
                      have : c2 + 1 = (N : Int) / 2 + 1 := by omega
                      simpa using this
                    have hnd : decide (c2 = (N : Int) / 2) = true := decide_eq_true hnn
                    have hv2 := HV2.out
                    simp only [if_true] at hv2
                    clear hnn
                    obtain rfl : v2 = owt := by rw [← hv2]; exact hown rfl
                    clear hown hfrom hv2
                    go_wp2_with fail
                    go_roundw
                    case rel => exact ⟨k + 1, s2, wth f kk, _, _, by rw [HCW.out, HCL.out]; go_num, rfl, by go_num, by omega, by omega, M8.out, HA2.out⟩
                    case measure => simp [intOf]; omega
              · subst hsm
                have M8 := M7
                as_aux_lemma =>
                  have hi := HI.out _ _ TS8.out
                  obtain ⟨hA, hown, hfrom⟩ := hi
                  have HA2 := Lib.hid hA
                  clear hA TS8 HI
                  have hdk2 : dk = false ∨ dk = true := by cases dk <;> simp
                  rcases hdk2 with hdk2 | hdk2
                  · subst hdk2
                    have hnn : ¬ c2 = (N : Int) / 2 := by
                      have h1 := HDK.out
                      have h2 := HCL.out
                      unfold dkB at h1
                      have h3 := of_decide_eq_false h1
                      omega
                    have hnb : (c2 == (N : Int) / 2) = false := by simpa using hnn
                    have hnb1 : (c2 + 1 == (N : Int) / 2 + 1) = false := by
                      have : ¬ c2 + 1 = (N : Int) / 2 + 1 := by omega
                      simpa using this
                    clear hown hfrom
                    go_wp2_with fail
                    go_roundw
                    case rel => exact ⟨k + 1, s2, wth f kk, _, _, by rw [HCW.out, HCL.out]; go_num, rfl, by go_num, by omega, by omega, M8.out, HA2.out⟩
                    case measure => simp [intOf]; omega
                  · subst hdk2
                    have hnn : c2 = (N : Int) / 2 := by
                      have h1 := HDK.out
                      have h2 := HCL.out
                      unfold dkB at h1
                      have h3 := of_decide_eq_true h1
                      omega
                    have hnb : (c2 == (N : Int) / 2) = true := by simpa using hnn
                    have hnb1 : (c2 + 1 == (N : Int) / 2 + 1) = true := by
                      have : c2 + 1 = (N : Int) / 2 + 1 := by omega
                      simpa using this
                    have hnd : decide (c2 = (N : Int) / 2) = true := decide_eq_true hnn
                    have hv2 := HV2.out
                    simp only [if_true] at hv2
                    clear hnn
                    have HF := Lib.hid (show fnd sc (top) v2 (k + 1) = true from by
                      obtain ⟨j, h1, h2, h3, h4⟩ := hfrom rfl
                      exact fnd_of h1 h2 h3 (by rw [h4, hv2]))
                    clear hown hfrom hv2
                    go_wp2_with fail
                    clear hnb hnb1 hnd
                    obtain ⟨tb, htb⟩ : ∃ tb, (top) = tb := ⟨_, rfl⟩
                    rw [htb] at M8 HF HA2
                    clear htb
                    go_loopw [18, 19] (fun v18 v19 wx => ∃ jj : Nat, v19 = .int .i64 (jj : Int) ∧ jj ≤ k + 1 ∧ v18 = .bool (fnd sc tb v2 jj) ∧ DM W wx hn gm N s2 bb (bb + 1) (bb + 2) (wth f kk) tb) (fun _ v19 _ => k + 1 - (intOf v19).toNat)
                    case atStart => exact ⟨0, rfl, by omega, rfl, M8.out⟩
                    case round =>
                      obtain ⟨jj, rfl, hjk, rfl, hM9⟩ := hrel
                      clear M8
                      have hj0 : (0 : Int) ≤ (jj : Int) := by omega
                      by_cases hle : jj ≤ k
                      · have hle1 : (jj : Int) ≤ (k : Int) := by omega
                        have hle2 : (jj : Int) < (len : Int) := by omega
                        obtain ⟨g2, o2, hao2, hq2, hg2, hat2⟩ := HSC.out jj (by omega)
                        obtain ⟨e1, e2⟩ : g = g2 ∧ o = o2 := by simpa using hao2
                        subst e1 e2
                        have hatj := hat2.from hg2 hM9.bel
                        have HFN := Lib.hid (show fnd sc tb v2 (jj + 1) = (fnd sc tb v2 jj || ((sc jj).a.is && decide ((sc jj).a.b = tb) && decide ((sc jj).a.v = v2))) from rfl)
                        obtain ⟨q2, hq2e⟩ : ∃ q2, q2 = sc jj := ⟨_, rfl⟩
                        rw [← hq2e] at hatj HFN
                        have x1 := cell_regrown (hatj 1 _ rfl); have x2 := cell_regrown (hatj 2 _ rfl); have x3 := cell_regrown (hatj 3 _ rfl); have x4 := cell_regrown (hatj 4 _ rfl)
                        obtain ⟨y0, y1, _, _⟩ := Row2.all hM9.tt
                        have x5 := cell_regrown y0; have x6 := cell_regrown y1
                        have HM9 := Lib.hid hM9
                        generalize hfo : fnd sc tb v2 jj = fo at *
                        clear hatj hat2 hao2 hq2 hq2e y0 y1 hM9 hfo hjk
                        go_upto_region 34 with (fail)
                        have hfo2 : fo = true ∨ fo = false := by cases fo <;> simp
                        rcases hfo2 with hfo2 | hfo2
                        · subst hfo2
                          refine wp_region_quiet_below (by kernel_rfl) (by kernel_rfl) ?_
                          repeat (go_big_quiet_step (fail))
                          refine wpQuiet_nil ?_
                          intro _ hw'
                          obtain ⟨⟨dq, osq⟩, hw''⟩ := hw'
                          subst hw''
                          have MD := Lib.hid (HM9.out.below (below_regrown wr dq osq))
                          clear x1 x2 x3 x4 x5 x6
                          go_wp2_with fail
                          go_roundw
                          case rel => exact ⟨jj + 1, by go_num, by omega, by rw [HFN.out]; rfl, MD.out⟩
                          case measure => simp [intOf]; omega
                        · subst hfo2
                          have his : q2.a.is = false ∨ q2.a.is = true := by cases q2.a.is <;> simp
                          rcases his with his | his
                          · rw [his] at x1 HFN
                            refine wp_region_quiet_below (by kernel_rfl) (by kernel_rfl) ?_
                            repeat (go_big_quiet_step (fail))
                            refine wpQuiet_nil ?_
                            intro _ hw'
                            obtain ⟨⟨dq, osq⟩, hw''⟩ := hw'
                            subst hw''
                            have MD := Lib.hid (HM9.out.below (below_regrown wr dq osq))
                            clear x1 x2 x3 x4 x5 x6
                            go_wp2_with fail
                            go_roundw
                            case rel => exact ⟨jj + 1, by go_num, by omega, by rw [HFN.out]; rfl, MD.out⟩
                            case measure => simp [intOf]; omega
                          · rw [his] at x1 HFN
                            by_cases hb : q2.a.b = tb
                            · rw [hb] at x2 x3
                              have HB1 := eql_b1 tb
                              by_cases hv : q2.a.v = v2
                              · rw [hv] at x4
                                refine wp_region_quiet_below (by kernel_rfl) (by kernel_rfl) ?_
                                repeat (go_big_quiet_step (fail))
                                refine wpQuiet_nil ?_
                                intro _ hw'
                                obtain ⟨⟨dq, osq⟩, hw''⟩ := hw'
                                subst hw''
                                have MD := Lib.hid (HM9.out.below (below_regrown wr dq osq))
                                clear x1 x2 x3 x4 x5 x6
                                go_wp2_with fail
                                go_roundw
                                case rel => exact ⟨jj + 1, by go_num, by omega, by rw [HFN.out, hb, hv]; simp, MD.out⟩
                                case measure => simp [intOf]; omega
                              · have hvd := str_ne hv
                                refine wp_region_quiet_below (by kernel_rfl) (by kernel_rfl) ?_
                                repeat (go_big_quiet_step (fail))
                                refine wpQuiet_nil ?_
                                intro _ hw'
                                obtain ⟨⟨dq, osq⟩, hw''⟩ := hw'
                                subst hw''
                                have MD := Lib.hid (HM9.out.below (below_regrown wr dq osq))
                                clear x1 x2 x3 x4 x5 x6
                                go_wp2_with fail
                                go_roundw
                                case rel => exact ⟨jj + 1, by go_num, by omega, by rw [HFN.out, hb, decide_eq_false hv]; simp, MD.out⟩
                                case measure => simp [intOf]; omega
                            · have HB1 := eql_bn hb
                              refine wp_region_quiet_below (by kernel_rfl) (by kernel_rfl) ?_
                              repeat (go_big_quiet_step (fail))
                              refine wpQuiet_nil ?_
                              intro _ hw'
                              obtain ⟨⟨dq, osq⟩, hw''⟩ := hw'
                              subst hw''
                              have MD := Lib.hid (HM9.out.below (below_regrown wr dq osq))
                              clear x1 x2 x3 x4 x5 x6
                              go_wp2_with fail
                              go_roundw
                              case rel => exact ⟨jj + 1, by go_num, by omega, by rw [HFN.out, decide_eq_false hb]; simp, MD.out⟩
                              case measure => simp [intOf]; omega
                      · obtain rfl : jj = k + 1 := by omega
                        have hle1 : ((k : Int)) < ((k + 1 : Nat) : Int) := by omega
                        have hfe := HF.out
                        rw [hfe]
                        have HM9 := Lib.hid hM9
                        obtain ⟨kn, hkn⟩ : ∃ kn : Int, ((k + 1 : Nat) : Int) = kn := ⟨_, rfl⟩
                        rw [hkn] at hle1 hj0 ⊢
                        clear hM9 hkn hjk hle hfe
                        go_wp2_with fail
                        go_roundw
                        case rel => exact ⟨k + 1, s2, wth f kk, tb, true, by rw [HCW.out, HCL.out]; go_num, rfl, by go_num, by omega, by omega, HM9.out, HA2.out⟩
                        case measure => simp [intOf]; omega
            · rw [hai] at a1
              cases hsm : sm
              · subst hsm
                have TS8 := Lib.hid (HTS.out.up hai (.inl rfl))
                clear HTS
                have WL := Lib.hid (fun d os => Calls.regrown_of (less_any top q.a.b (grow (redrawn w7 d) os)))
                go_upto_region 23 with (fail)
                clear a1
                obtain ⟨y0, y1, _, _⟩ := Row2.all M7.out.tt
                have x0 := cell_regrown y0; have x1 := cell_regrown y1; have x2 := cell_regrown a2; have x3 := cell_regrown a3
                clear y0 y1
                refine wp_region_quiet_below (by kernel_rfl) (by kernel_rfl) ?_
                repeat (go_big_quiet_step (exact WL.out _ _))
                refine wpQuiet_nil ?_
                intro _ hw'
                obtain ⟨⟨dq, osq⟩, hw''⟩ := hw'
                subst hw''
                have lk := below_regrown w7 dq osq
                have M7b := Lib.hid (M7.out.below lk)
                have hatw := HAT.out _ M7b.out.bel
                clear a2 a3 a4 x0 x1 x2 x3 lk WL M7
                generalize grow (redrawn w7 dq) osq = w7b at *
                have a2 := hatw 2 _ rfl; have a3 := hatw 3 _ rfl
                clear hatw
                obtain ⟨y0, y1, f0, f1⟩ := Row2.all M7b.out.tt
                go_upto_region 26 with (fail)
                have M8 := Lib.hid (M7b.out.lay q.a.b)
                simp only [lay2] at M8
                clear y0 y1 f0 f1 a2 a3 M7b
                generalize (w7b.setCell ⟨bb + 1 + 1, 0, none⟩ (.int .u32 q.a.b.round)).setCell ⟨bb + 1 + 1, 1, none⟩ (.int .u8 q.a.b.node) = w8 at *
                as_aux_lemma =>
                  have hi := HI.out _ _ TS8.out
                  obtain ⟨hA, hown, hfrom⟩ := hi
                  have HA2 := Lib.hid hA
                  clear hA TS8 HI
                  have hdk2 : dk = false ∨ dk = true := by cases dk <;> simp
                  rcases hdk2 with hdk2 | hdk2
                  · subst hdk2
                    have hnn : ¬ c2 = (N : Int) / 2 := by
                      have h1 := HDK.out
                      have h2 := HCL.out
                      unfold dkB at h1
                      have h3 := of_decide_eq_false h1
                      omega
                    have hnb : (c2 == (N : Int) / 2) = false := by simpa using hnn
                    have hnb1 : (c2 + 1 == (N : Int) / 2 + 1) = false := by
                      have : ¬ c2 + 1 = (N : Int) / 2 + 1 := by omega
                      simpa using this
                    clear hown hfrom
                    go_wp2_with fail
                    go_roundw
                    case rel => exact ⟨k + 1, s2, wth f kk, _, _, by rw [HCW.out, HCL.out]; go_num, rfl, by go_num, by omega, by omega, M8.out, HA2.out⟩
                    case measure => simp [intOf]; omega
                  · subst hdk2
                    have hnn : c2 = (N : Int) / 2 := by
                      have h1 := HDK.out
                      have h2 := HCL.out
                      unfold dkB at h1
                      have h3 := of_decide_eq_true h1
                      omega
                    have hnb : (c2 == (N : Int) / 2) = true := by simpa using hnn
                    have hnb1 : (c2 + 1 == (N : Int) / 2 + 1) = true := by
                      have : c2 + 1 = (N : Int) / 2 + 1 := by omega
                      simpa using this
                    have hnd : decide (c2 = (N : Int) / 2) = true := decide_eq_true hnn
                    have hv2 := HV2.out
                    simp only [if_true] at hv2
                    clear hnn
                    have HF := Lib.hid (show fnd sc (q.a.b) v2 (k + 1) = true from by
                      obtain ⟨j, h1, h2, h3, h4⟩ := hfrom rfl
                      exact fnd_of h1 h2 h3 (by rw [h4, hv2]))
                    clear hown hfrom hv2
                    go_wp2_with fail
                    clear hnb hnb1 hnd
                    obtain ⟨tb, htb⟩ : ∃ tb, (q.a.b) = tb := ⟨_, rfl⟩
                    rw [htb] at M8 HF HA2
                    clear htb
                    go_loopw [18, 19] (fun v18 v19 wx => ∃ jj : Nat, v19 = .int .i64 (jj : Int) ∧ jj ≤ k + 1 ∧ v18 = .bool (fnd sc tb v2 jj) ∧ DM W wx hn gm N s2 bb (bb + 1) (bb + 2) (wth f kk) tb) (fun _ v19 _ => k + 1 - (intOf v19).toNat)
                    case atStart => exact ⟨0, rfl, by omega, rfl, M8.out⟩
                    case round =>
                      obtain ⟨jj, rfl, hjk, rfl, hM9⟩ := hrel
                      clear M8
                      have hj0 : (0 : Int) ≤ (jj : Int) := by omega
                      by_cases hle : jj ≤ k
                      · have hle1 : (jj : Int) ≤ (k : Int) := by omega
                        have hle2 : (jj : Int) < (len : Int) := by omega
                        obtain ⟨g2, o2, hao2, hq2, hg2, hat2⟩ := HSC.out jj (by omega)
                        obtain ⟨e1, e2⟩ : g = g2 ∧ o = o2 := by simpa using hao2
                        subst e1 e2
                        have hatj := hat2.from hg2 hM9.bel
                        have HFN := Lib.hid (show fnd sc tb v2 (jj + 1) = (fnd sc tb v2 jj || ((sc jj).a.is && decide ((sc jj).a.b = tb) && decide ((sc jj).a.v = v2))) from rfl)
                        obtain ⟨q2, hq2e⟩ : ∃ q2, q2 = sc jj := ⟨_, rfl⟩
                        rw [← hq2e] at hatj HFN
                        have x1 := cell_regrown (hatj 1 _ rfl); have x2 := cell_regrown (hatj 2 _ rfl); have x3 := cell_regrown (hatj 3 _ rfl); have x4 := cell_regrown (hatj 4 _ rfl)
                        obtain ⟨y0, y1, _, _⟩ := Row2.all hM9.tt
                        have x5 := cell_regrown y0; have x6 := cell_regrown y1
                        have HM9 := Lib.hid hM9
                        generalize hfo : fnd sc tb v2 jj = fo at *
                        clear hatj hat2 hao2 hq2 hq2e y0 y1 hM9 hfo hjk
                        go_upto_region 34 with (fail)
                        have hfo2 : fo = true ∨ fo = false := by cases fo <;> simp
                        rcases hfo2 with hfo2 | hfo2
                        · subst hfo2
                          refine wp_region_quiet_below (by kernel_rfl) (by kernel_rfl) ?_
                          repeat (go_big_quiet_step (fail))
                          refine wpQuiet_nil ?_
                          intro _ hw'
                          obtain ⟨⟨dq, osq⟩, hw''⟩ := hw'
                          subst hw''
                          have MD := Lib.hid (HM9.out.below (below_regrown wr dq osq))
                          clear x1 x2 x3 x4 x5 x6
                          go_wp2_with fail
                          go_roundw
                          case rel => exact ⟨jj + 1, by go_num, by omega, by rw [HFN.out]; rfl, MD.out⟩
                          case measure => simp [intOf]; omega
                        · subst hfo2
                          have his : q2.a.is = false ∨ q2.a.is = true := by cases q2.a.is <;> simp
                          rcases his with his | his
                          · rw [his] at x1 HFN
                            refine wp_region_quiet_below (by kernel_rfl) (by kernel_rfl) ?_
                            repeat (go_big_quiet_step (fail))
                            refine wpQuiet_nil ?_
                            intro _ hw'
                            obtain ⟨⟨dq, osq⟩, hw''⟩ := hw'
                            subst hw''
                            have MD := Lib.hid (HM9.out.below (below_regrown wr dq osq))
                            clear x1 x2 x3 x4 x5 x6
                            go_wp2_with fail
                            go_roundw
                            case rel => exact ⟨jj + 1, by go_num, by omega, by rw [HFN.out]; rfl, MD.out⟩
                            case measure => simp [intOf]; omega
                          · rw [his] at x1 HFN
                            by_cases hb : q2.a.b = tb
                            · rw [hb] at x2 x3
                              have HB1 := eql_b1 tb
                              by_cases hv : q2.a.v = v2
                              · rw [hv] at x4
                                refine wp_region_quiet_below (by kernel_rfl) (by kernel_rfl) ?_
                                repeat (go_big_quiet_step (fail))
                                refine wpQuiet_nil ?_
                                intro _ hw'
                                obtain ⟨⟨dq, osq⟩, hw''⟩ := hw'
                                subst hw''
                                have MD := Lib.hid (HM9.out.below (below_regrown wr dq osq))
                                clear x1 x2 x3 x4 x5 x6
                                go_wp2_with fail
                                go_roundw
                                case rel => exact ⟨jj + 1, by go_num, by omega, by rw [HFN.out, hb, hv]; simp, MD.out⟩
                                case measure => simp [intOf]; omega
                              · have hvd := str_ne hv
                                refine wp_region_quiet_below (by kernel_rfl) (by kernel_rfl) ?_
                                repeat (go_big_quiet_step (fail))
                                refine wpQuiet_nil ?_
                                intro _ hw'
                                obtain ⟨⟨dq, osq⟩, hw''⟩ := hw'
                                subst hw''
                                have MD := Lib.hid (HM9.out.below (below_regrown wr dq osq))
                                clear x1 x2 x3 x4 x5 x6
                                go_wp2_with fail
                                go_roundw
                                case rel => exact ⟨jj + 1, by go_num, by omega, by rw [HFN.out, hb, decide_eq_false hv]; simp, MD.out⟩
                                case measure => simp [intOf]; omega
                            · have HB1 := eql_bn hb
                              refine wp_region_quiet_below (by kernel_rfl) (by kernel_rfl) ?_
                              repeat (go_big_quiet_step (fail))
                              refine wpQuiet_nil ?_
                              intro _ hw'
                              obtain ⟨⟨dq, osq⟩, hw''⟩ := hw'
                              subst hw''
                              have MD := Lib.hid (HM9.out.below (below_regrown wr dq osq))
                              clear x1 x2 x3 x4 x5 x6
                              go_wp2_with fail
                              go_roundw
                              case rel => exact ⟨jj + 1, by go_num, by omega, by rw [HFN.out, decide_eq_false hb]; simp, MD.out⟩
                              case measure => simp [intOf]; omega
                      · obtain rfl : jj = k + 1 := by omega
                        have hle1 : ((k : Int)) < ((k + 1 : Nat) : Int) := by omega
                        have hfe := HF.out
                        rw [hfe]
                        have HM9 := Lib.hid hM9
                        obtain ⟨kn, hkn⟩ : ∃ kn : Int, ((k + 1 : Nat) : Int) = kn := ⟨_, rfl⟩
                        rw [hkn] at hle1 hj0 ⊢
                        clear hM9 hkn hjk hle hfe
                        go_wp2_with fail
                        go_roundw
                        case rel => exact ⟨k + 1, s2, wth f kk, tb, true, by rw [HCW.out, HCL.out]; go_num, rfl, by go_num, by omega, by omega, HM9.out, HA2.out⟩
                        case measure => simp [intOf]; omega
              · subst hsm
                cases hlw : low top q.a.b
                · have TS8 := Lib.hid (HTS.out.low hai rfl hlw)
                  clear HTS
                  have WL := Lib.hid (fun d os => Calls.regrown_of (by have := less_any top q.a.b (grow (redrawn w7 d) os); rw [hlw] at this; exact this))
                  go_upto_region 23 with (fail)
                  clear a1
                  obtain ⟨y0, y1, _, _⟩ := Row2.all M7.out.tt
                  have x0 := cell_regrown y0; have x1 := cell_regrown y1; have x2 := cell_regrown a2; have x3 := cell_regrown a3
                  clear y0 y1
                  refine wp_region_quiet_below (by kernel_rfl) (by kernel_rfl) ?_
                  repeat (go_big_quiet_step (exact WL.out _ _))
                  refine wpQuiet_nil ?_
                  intro _ hw'
                  obtain ⟨⟨dq, osq⟩, hw''⟩ := hw'
                  subst hw''
                  have lk := below_regrown w7 dq osq
                  have M7b := Lib.hid (M7.out.below lk)
                  have hatw := HAT.out _ M7b.out.bel
                  clear a2 a3 a4 x0 x1 x2 x3 lk WL M7
                  generalize grow (redrawn w7 dq) osq = w7b at *
                  have a2 := hatw 2 _ rfl; have a3 := hatw 3 _ rfl
                  clear hatw
                  go_upto_region 26 with (fail)
                  have M8 := M7b
                  clear a2 a3
                  obtain ⟨w8, hw8⟩ : ∃ w8, w7b = w8 := ⟨_, rfl⟩
                  rw [hw8] at M8 ⊢
                  clear hw8 M7b
                  as_aux_lemma =>
                    have hi := HI.out _ _ TS8.out
                    obtain ⟨hA, hown, hfrom⟩ := hi
                    have HA2 := Lib.hid hA
                    clear hA TS8 HI
                    have hdk2 : dk = false ∨ dk = true := by cases dk <;> simp
                    rcases hdk2 with hdk2 | hdk2
                    · subst hdk2
                      have hnn : ¬ c2 = (N : Int) / 2 := by
                        have h1 := HDK.out
                        have h2 := HCL.out
                        unfold dkB at h1
                        have h3 := of_decide_eq_false h1
                        omega
                      have hnb : (c2 == (N : Int) / 2) = false := by simpa using hnn
                      have hnb1 : (c2 + 1 == (N : Int) / 2 + 1) = false := by
                        have : ¬ c2 + 1 = (N : Int) / 2 + 1 := by omega
                        simpa using this
                      clear hown hfrom
                      go_wp2_with fail
                      go_roundw
                      case rel => exact ⟨k + 1, s2, wth f kk, _, _, by rw [HCW.out, HCL.out]; go_num, rfl, by go_num, by omega, by omega, M8.out, HA2.out⟩
                      case measure => simp [intOf]; omega
                    · subst hdk2
                      have hnn : c2 = (N : Int) / 2 := by
                        have h1 := HDK.out
                        have h2 := HCL.out
                        unfold dkB at h1
                        have h3 := of_decide_eq_true h1
                        omega
                      have hnb : (c2 == (N : Int) / 2) = true := by simpa using hnn
                      have hnb1 : (c2 + 1 == (N : Int) / 2 + 1) = true := by
                        have : c2 + 1 = (N : Int) / 2 + 1 := by omega
                        simpa using this
                      have hnd : decide (c2 = (N : Int) / 2) = true := decide_eq_true hnn
                      have hv2 := HV2.out
                      simp only [if_true] at hv2
                      clear hnn
                      have HF := Lib.hid (show fnd sc (top) v2 (k + 1) = true from by
                        obtain ⟨j, h1, h2, h3, h4⟩ := hfrom rfl
                        exact fnd_of h1 h2 h3 (by rw [h4, hv2]))
                      clear hown hfrom hv2
                      go_wp2_with fail
                      clear hnb hnb1 hnd
                      obtain ⟨tb, htb⟩ : ∃ tb, (top) = tb := ⟨_, rfl⟩
                      rw [htb] at M8 HF HA2
                      clear htb
                      go_loopw [18, 19] (fun v18 v19 wx => ∃ jj : Nat, v19 = .int .i64 (jj : Int) ∧ jj ≤ k + 1 ∧ v18 = .bool (fnd sc tb v2 jj) ∧ DM W wx hn gm N s2 bb (bb + 1) (bb + 2) (wth f kk) tb) (fun _ v19 _ => k + 1 - (intOf v19).toNat)
                      case atStart => exact ⟨0, rfl, by omega, rfl, M8.out⟩
                      case round =>
                        obtain ⟨jj, rfl, hjk, rfl, hM9⟩ := hrel
                        clear M8
                        have hj0 : (0 : Int) ≤ (jj : Int) := by omega
                        by_cases hle : jj ≤ k
                        · have hle1 : (jj : Int) ≤ (k : Int) := by omega
                          have hle2 : (jj : Int) < (len : Int) := by omega
                          obtain ⟨g2, o2, hao2, hq2, hg2, hat2⟩ := HSC.out jj (by omega)
                          obtain ⟨e1, e2⟩ : g = g2 ∧ o = o2 := by simpa using hao2
                          subst e1 e2
                          have hatj := hat2.from hg2 hM9.bel
                          have HFN := Lib.hid (show fnd sc tb v2 (jj + 1) = (fnd sc tb v2 jj || ((sc jj).a.is && decide ((sc jj).a.b = tb) && decide ((sc jj).a.v = v2))) from rfl)
                          obtain ⟨q2, hq2e⟩ : ∃ q2, q2 = sc jj := ⟨_, rfl⟩
                          rw [← hq2e] at hatj HFN
                          have x1 := cell_regrown (hatj 1 _ rfl); have x2 := cell_regrown (hatj 2 _ rfl); have x3 := cell_regrown (hatj 3 _ rfl); have x4 := cell_regrown (hatj 4 _ rfl)
                          obtain ⟨y0, y1, _, _⟩ := Row2.all hM9.tt
                          have x5 := cell_regrown y0; have x6 := cell_regrown y1
                          have HM9 := Lib.hid hM9
                          generalize hfo : fnd sc tb v2 jj = fo at *
                          clear hatj hat2 hao2 hq2 hq2e y0 y1 hM9 hfo hjk
                          go_upto_region 34 with (fail)
                          have hfo2 : fo = true ∨ fo = false := by cases fo <;> simp
                          rcases hfo2 with hfo2 | hfo2
                          · subst hfo2
                            refine wp_region_quiet_below (by kernel_rfl) (by kernel_rfl) ?_
                            repeat (go_big_quiet_step (fail))
                            refine wpQuiet_nil ?_
                            intro _ hw'
                            obtain ⟨⟨dq, osq⟩, hw''⟩ := hw'
                            subst hw''
                            have MD := Lib.hid (HM9.out.below (below_regrown wr dq osq))
                            clear x1 x2 x3 x4 x5 x6
                            go_wp2_with fail
                            go_roundw
                            case rel => exact ⟨jj + 1, by go_num, by omega, by rw [HFN.out]; rfl, MD.out⟩
                            case measure => simp [intOf]; omega
                          · subst hfo2
                            have his : q2.a.is = false ∨ q2.a.is = true := by cases q2.a.is <;> simp
                            rcases his with his | his
                            · rw [his] at x1 HFN
                              refine wp_region_quiet_below (by kernel_rfl) (by kernel_rfl) ?_
                              repeat (go_big_quiet_step (fail))
                              refine wpQuiet_nil ?_
                              intro _ hw'
                              obtain ⟨⟨dq, osq⟩, hw''⟩ := hw'
                              subst hw''
                              have MD := Lib.hid (HM9.out.below (below_regrown wr dq osq))
                              clear x1 x2 x3 x4 x5 x6
                              go_wp2_with fail
                              go_roundw
                              case rel => exact ⟨jj + 1, by go_num, by omega, by rw [HFN.out]; rfl, MD.out⟩
                              case measure => simp [intOf]; omega
                            · rw [his] at x1 HFN
                              by_cases hb : q2.a.b = tb
                              · rw [hb] at x2 x3
                                have HB1 := eql_b1 tb
                                by_cases hv : q2.a.v = v2
                                · rw [hv] at x4
                                  refine wp_region_quiet_below (by kernel_rfl) (by kernel_rfl) ?_
                                  repeat (go_big_quiet_step (fail))
                                  refine wpQuiet_nil ?_
                                  intro _ hw'
                                  obtain ⟨⟨dq, osq⟩, hw''⟩ := hw'
                                  subst hw''
                                  have MD := Lib.hid (HM9.out.below (below_regrown wr dq osq))
                                  clear x1 x2 x3 x4 x5 x6
                                  go_wp2_with fail
                                  go_roundw
                                  case rel => exact ⟨jj + 1, by go_num, by omega, by rw [HFN.out, hb, hv]; simp, MD.out⟩
                                  case measure => simp [intOf]; omega
                                · have hvd := str_ne hv
                                  refine wp_region_quiet_below (by kernel_rfl) (by kernel_rfl) ?_
                                  repeat (go_big_quiet_step (fail))
                                  refine wpQuiet_nil ?_
                                  intro _ hw'
                                  obtain ⟨⟨dq, osq⟩, hw''⟩ := hw'
                                  subst hw''
                                  have MD := Lib.hid (HM9.out.below (below_regrown wr dq osq))
                                  clear x1 x2 x3 x4 x5 x6
                                  go_wp2_with fail
                                  go_roundw
                                  case rel => exact ⟨jj + 1, by go_num, by omega, by rw [HFN.out, hb, decide_eq_false hv]; simp, MD.out⟩
                                  case measure => simp [intOf]; omega
                              · have HB1 := eql_bn hb
                                refine wp_region_quiet_below (by kernel_rfl) (by kernel_rfl) ?_
                                repeat (go_big_quiet_step (fail))
                                refine wpQuiet_nil ?_
                                intro _ hw'
                                obtain ⟨⟨dq, osq⟩, hw''⟩ := hw'
                                subst hw''
                                have MD := Lib.hid (HM9.out.below (below_regrown wr dq osq))
                                clear x1 x2 x3 x4 x5 x6
                                go_wp2_with fail
                                go_roundw
                                case rel => exact ⟨jj + 1, by go_num, by omega, by rw [HFN.out, decide_eq_false hb]; simp, MD.out⟩
                                case measure => simp [intOf]; omega
                        · obtain rfl : jj = k + 1 := by omega
                          have hle1 : ((k : Int)) < ((k + 1 : Nat) : Int) := by omega
                          have hfe := HF.out
                          rw [hfe]
                          have HM9 := Lib.hid hM9
                          obtain ⟨kn, hkn⟩ : ∃ kn : Int, ((k + 1 : Nat) : Int) = kn := ⟨_, rfl⟩
                          rw [hkn] at hle1 hj0 ⊢
                          clear hM9 hkn hjk hle hfe
                          go_wp2_with fail
                          go_roundw
                          case rel => exact ⟨k + 1, s2, wth f kk, tb, true, by rw [HCW.out, HCL.out]; go_num, rfl, by go_num, by omega, by omega, HM9.out, HA2.out⟩
                          case measure => simp [intOf]; omega
                · have TS8 := Lib.hid (HTS.out.up hai (.inr hlw))
                  clear HTS
                  have WL := Lib.hid (fun d os => Calls.regrown_of (by have := less_any top q.a.b (grow (redrawn w7 d) os); rw [hlw] at this; exact this))
                  go_upto_region 23 with (fail)
                  clear a1
                  obtain ⟨y0, y1, _, _⟩ := Row2.all M7.out.tt
                  have x0 := cell_regrown y0; have x1 := cell_regrown y1; have x2 := cell_regrown a2; have x3 := cell_regrown a3
                  clear y0 y1
                  refine wp_region_quiet_below (by kernel_rfl) (by kernel_rfl) ?_
                  repeat (go_big_quiet_step (exact WL.out _ _))
                  refine wpQuiet_nil ?_
                  intro _ hw'
                  obtain ⟨⟨dq, osq⟩, hw''⟩ := hw'
                  subst hw''
                  have lk := below_regrown w7 dq osq
                  have M7b := Lib.hid (M7.out.below lk)
                  have hatw := HAT.out _ M7b.out.bel
                  clear a2 a3 a4 x0 x1 x2 x3 lk WL M7
                  generalize grow (redrawn w7 dq) osq = w7b at *
                  have a2 := hatw 2 _ rfl; have a3 := hatw 3 _ rfl
                  clear hatw
                  obtain ⟨y0, y1, f0, f1⟩ := Row2.all M7b.out.tt
                  go_upto_region 26 with (fail)
                  have M8 := Lib.hid (M7b.out.lay q.a.b)
                  simp only [lay2] at M8
                  clear y0 y1 f0 f1 a2 a3 M7b
                  generalize (w7b.setCell ⟨bb + 1 + 1, 0, none⟩ (.int .u32 q.a.b.round)).setCell ⟨bb + 1 + 1, 1, none⟩ (.int .u8 q.a.b.node) = w8 at *
                  as_aux_lemma =>
                    have hi := HI.out _ _ TS8.out
                    obtain ⟨hA, hown, hfrom⟩ := hi
                    have HA2 := Lib.hid hA
                    clear hA TS8 HI
                    have hdk2 : dk = false ∨ dk = true := by cases dk <;> simp
                    rcases hdk2 with hdk2 | hdk2
                    · subst hdk2
                      have hnn : ¬ c2 = (N : Int) / 2 := by
                        have h1 := HDK.out
                        have h2 := HCL.out
                        unfold dkB at h1
                        have h3 := of_decide_eq_false h1
                        omega
                      have hnb : (c2 == (N : Int) / 2) = false := by simpa using hnn
                      have hnb1 : (c2 + 1 == (N : Int) / 2 + 1) = false := by
                        have : ¬ c2 + 1 = (N : Int) / 2 + 1 := by omega
                        simpa using this
                      clear hown hfrom
                      go_wp2_with fail
                      go_roundw
                      case rel => exact ⟨k + 1, s2, wth f kk, _, _, by rw [HCW.out, HCL.out]; go_num, rfl, by go_num, by omega, by omega, M8.out, HA2.out⟩
                      case measure => simp [intOf]; omega
                    · subst hdk2
                      have hnn : c2 = (N : Int) / 2 := by
                        have h1 := HDK.out
                        have h2 := HCL.out
                        unfold dkB at h1
                        have h3 := of_decide_eq_true h1
                        omega
                      have hnb : (c2 == (N : Int) / 2) = true := by simpa using hnn
                      have hnb1 : (c2 + 1 == (N : Int) / 2 + 1) = true := by
                        have : c2 + 1 = (N : Int) / 2 + 1 := by omega
                        simpa using this
                      have hnd : decide (c2 = (N : Int) / 2) = true := decide_eq_true hnn
                      have hv2 := HV2.out
                      simp only [if_true] at hv2
                      clear hnn
                      have HF := Lib.hid (show fnd sc (q.a.b) v2 (k + 1) = true from by
                        obtain ⟨j, h1, h2, h3, h4⟩ := hfrom rfl
                        exact fnd_of h1 h2 h3 (by rw [h4, hv2]))
                      clear hown hfrom hv2
                      go_wp2_with fail
                      clear hnb hnb1 hnd
                      obtain ⟨tb, htb⟩ : ∃ tb, (q.a.b) = tb := ⟨_, rfl⟩
                      rw [htb] at M8 HF HA2
                      clear htb
                      go_loopw [18, 19] (fun v18 v19 wx => ∃ jj : Nat, v19 = .int .i64 (jj : Int) ∧ jj ≤ k + 1 ∧ v18 = .bool (fnd sc tb v2 jj) ∧ DM W wx hn gm N s2 bb (bb + 1) (bb + 2) (wth f kk) tb) (fun _ v19 _ => k + 1 - (intOf v19).toNat)
                      case atStart => exact ⟨0, rfl, by omega, rfl, M8.out⟩
                      case round =>
                        obtain ⟨jj, rfl, hjk, rfl, hM9⟩ := hrel
                        clear M8
                        have hj0 : (0 : Int) ≤ (jj : Int) := by omega
                        by_cases hle : jj ≤ k
                        · have hle1 : (jj : Int) ≤ (k : Int) := by omega
                          have hle2 : (jj : Int) < (len : Int) := by omega
                          obtain ⟨g2, o2, hao2, hq2, hg2, hat2⟩ := HSC.out jj (by omega)
                          obtain ⟨e1, e2⟩ : g = g2 ∧ o = o2 := by simpa using hao2
                          subst e1 e2
                          have hatj := hat2.from hg2 hM9.bel
                          have HFN := Lib.hid (show fnd sc tb v2 (jj + 1) = (fnd sc tb v2 jj || ((sc jj).a.is && decide ((sc jj).a.b = tb) && decide ((sc jj).a.v = v2))) from rfl)
                          obtain ⟨q2, hq2e⟩ : ∃ q2, q2 = sc jj := ⟨_, rfl⟩
                          rw [← hq2e] at hatj HFN
                          have x1 := cell_regrown (hatj 1 _ rfl); have x2 := cell_regrown (hatj 2 _ rfl); have x3 := cell_regrown (hatj 3 _ rfl); have x4 := cell_regrown (hatj 4 _ rfl)
                          obtain ⟨y0, y1, _, _⟩ := Row2.all hM9.tt
                          have x5 := cell_regrown y0; have x6 := cell_regrown y1
                          have HM9 := Lib.hid hM9
                          generalize hfo : fnd sc tb v2 jj = fo at *
                          clear hatj hat2 hao2 hq2 hq2e y0 y1 hM9 hfo hjk
                          go_upto_region 34 with (fail)
                          have hfo2 : fo = true ∨ fo = false := by cases fo <;> simp
                          rcases hfo2 with hfo2 | hfo2
                          · subst hfo2
                            refine wp_region_quiet_below (by kernel_rfl) (by kernel_rfl) ?_
                            repeat (go_big_quiet_step (fail))
                            refine wpQuiet_nil ?_
                            intro _ hw'
                            obtain ⟨⟨dq, osq⟩, hw''⟩ := hw'
                            subst hw''
                            have MD := Lib.hid (HM9.out.below (below_regrown wr dq osq))
                            clear x1 x2 x3 x4 x5 x6
                            go_wp2_with fail
                            go_roundw
                            case rel => exact ⟨jj + 1, by go_num, by omega, by rw [HFN.out]; rfl, MD.out⟩
                            case measure => simp [intOf]; omega
                          · subst hfo2
                            have his : q2.a.is = false ∨ q2.a.is = true := by cases q2.a.is <;> simp
                            rcases his with his | his
                            · rw [his] at x1 HFN
                              refine wp_region_quiet_below (by kernel_rfl) (by kernel_rfl) ?_
                              repeat (go_big_quiet_step (fail))
                              refine wpQuiet_nil ?_
                              intro _ hw'
                              obtain ⟨⟨dq, osq⟩, hw''⟩ := hw'
                              subst hw''
                              have MD := Lib.hid (HM9.out.below (below_regrown wr dq osq))
                              clear x1 x2 x3 x4 x5 x6
                              go_wp2_with fail
                              go_roundw
                              case rel => exact ⟨jj + 1, by go_num, by omega, by rw [HFN.out]; rfl, MD.out⟩
                              case measure => simp [intOf]; omega
                            · rw [his] at x1 HFN
                              by_cases hb : q2.a.b = tb
                              · rw [hb] at x2 x3
                                have HB1 := eql_b1 tb
                                by_cases hv : q2.a.v = v2
                                · rw [hv] at x4
                                  refine wp_region_quiet_below (by kernel_rfl) (by kernel_rfl) ?_
                                  repeat (go_big_quiet_step (fail))
                                  refine wpQuiet_nil ?_
                                  intro _ hw'
                                  obtain ⟨⟨dq, osq⟩, hw''⟩ := hw'
                                  subst hw''
                                  have MD := Lib.hid (HM9.out.below (below_regrown wr dq osq))
                                  clear x1 x2 x3 x4 x5 x6
                                  go_wp2_with fail
                                  go_roundw
                                  case rel => exact ⟨jj + 1, by go_num, by omega, by rw [HFN.out, hb, hv]; simp, MD.out⟩
                                  case measure => simp [intOf]; omega
                                · have hvd := str_ne hv
                                  refine wp_region_quiet_below (by kernel_rfl) (by kernel_rfl) ?_
                                  repeat (go_big_quiet_step (fail))
                                  refine wpQuiet_nil ?_
                                  intro _ hw'
                                  obtain ⟨⟨dq, osq⟩, hw''⟩ := hw'
                                  subst hw''
                                  have MD := Lib.hid (HM9.out.below (below_regrown wr dq osq))
                                  clear x1 x2 x3 x4 x5 x6
                                  go_wp2_with fail
                                  go_roundw
                                  case rel => exact ⟨jj + 1, by go_num, by omega, by rw [HFN.out, hb, decide_eq_false hv]; simp, MD.out⟩
                                  case measure => simp [intOf]; omega
                              · have HB1 := eql_bn hb
                                refine wp_region_quiet_below (by kernel_rfl) (by kernel_rfl) ?_
                                repeat (go_big_quiet_step (fail))
                                refine wpQuiet_nil ?_
                                intro _ hw'
                                obtain ⟨⟨dq, osq⟩, hw''⟩ := hw'
                                subst hw''
                                have MD := Lib.hid (HM9.out.below (below_regrown wr dq osq))
                                clear x1 x2 x3 x4 x5 x6
                                go_wp2_with fail
                                go_roundw
                                case rel => exact ⟨jj + 1, by go_num, by omega, by rw [HFN.out, decide_eq_false hb]; simp, MD.out⟩
                                case measure => simp [intOf]; omega
                        · obtain rfl : jj = k + 1 := by omega
                          have hle1 : ((k : Int)) < ((k + 1 : Nat) : Int) := by omega
                          have hfe := HF.out
                          rw [hfe]
                          have HM9 := Lib.hid hM9
                          obtain ⟨kn, hkn⟩ : ∃ kn : Int, ((k + 1 : Nat) : Int) = kn := ⟨_, rfl⟩
                          rw [hkn] at hle1 hj0 ⊢
                          clear hM9 hkn hjk hle hfe
                          go_wp2_with fail
                          go_roundw
                          case rel => exact ⟨k + 1, s2, wth f kk, tb, true, by rw [HCW.out, HCL.out]; go_num, rfl, by go_num, by omega, by omega, HM9.out, HA2.out⟩
                          case measure => simp [intOf]; omega
        · as_aux_lemma =>
            have hd2 : N < 2 * cnt N f := by omega
            have C := HC.out
            rw [HV.out.late hd2] at C
            have HV3 := Lib.hid (HV.out.lateF hd2 hpk hfk)
            simp only at C
            clear HC
            have d1 := SS.out.1; have d2 := SS.out.2.1; have d3 := SS.out.2.2.1; have d4 := SS.out.2.2.2.1; have d5 := SS.out.2.2.2.2.1; have d6 := SS.out.2.2.2.2.2.1; have d7 := SS.out.2.2.2.2.2.2.1; have d8 := SS.out.2.2.2.2.2.2.2
            go_region_held3 (fun w' => w'.cell? ⟨bb, 0, none⟩ = some (.int .u32 7) ∧ w'.cell? ⟨bb, 1, none⟩ = some (.int .u8 3) ∧ w'.cell? ⟨g, o + k * 5 + 1, none⟩ = some (.bool q.a.is) ∧ w'.cell? ⟨g, o + k * 5 + 2, none⟩ = some (.int .u32 q.a.b.round) ∧ w'.cell? ⟨g, o + k * 5 + 3, none⟩ = some (.int .u8 q.a.b.node) ∧ w'.cell? ⟨g, o + k * 5 + 4, none⟩ = some (.string q.a.v) ∧ bb < w'.heap.size ∧ g < w'.heap.size)
              (first | with_reducible assumption | with_reducible exact HS6.out | with_reducible exact dKeep SS.out (Keep.of_below (Below.refl _ wr).drew []) (by simp))
              (first | (go_at_call 14; with_reducible refine C.mono ?_; rintro e w6 ⟨rfl, t6, k6⟩; have HS6 := Lib.hid (dKeep (dKeep SS.out (Keep.of_below (Below.refl _ wr).drew []) (by simp)) k6 HNB.out); have T6 := Lib.hid t6; have K6 := Lib.hid k6; clear t6 k6))
            have M6 := Lib.hid ((M1.out.below (Below.refl _ _).drew).turn (s' := s) T6.out K6.out)
            clear C T6 K6 M1 HS6 SS d1 d2 d3 d4 d5 d6 d7 d8
            obtain ⟨z1, z2⟩ := Row9.at_ M6.out.se kk (by omega)
            rw [hfk] at z1
            have hcw := cnt_wth N f kk hpk hfk
            have HCW := Lib.hid hcw
            have hcN : ((cnt N f : Nat) : Int) ≤ 9 := by omega
            have hc0 : (0 : Int) ≤ ((cnt N f : Nat) : Int) := by omega
            clear hcw
            go_upto_region 22 with (fail)
            have M7 := Lib.hid (M6.out.see kk (by omega))
            clear z1 z2 M6
            generalize w6.setCell ⟨bb + 1, kk, none⟩ (.bool true) = w7 at *
            generalize hc2 : ((cnt N f : Nat) : Int) = c2 at *
            have hatw := HAT.out w7 M7.out.bel
            have a1 := hatw 1 _ rfl
            clear hatw
            have hcd : decide (c2 + 1 ≤ (N : Int) / 2 + 1) = false := decide_eq_false (by omega)
            have hcd2 : decide (c2 ≤ (N : Int) / 2) = false := decide_eq_false (by omega)
            have hnn : ¬ c2 = (N : Int) / 2 := by omega
            have hnb : (c2 == (N : Int) / 2) = false := by simpa using hnn
            have hnb1 : (c2 + 1 == (N : Int) / 2 + 1) = false := by
              have : ¬ c2 + 1 = (N : Int) / 2 + 1 := by omega
              simpa using this
            have HCL := Lib.hid (show c2 = ((cnt N f : Nat) : Int) from hc2.symm)
            clear hc2
            have hai : q.a.is = false ∨ q.a.is = true := by cases q.a.is <;> simp
            rcases hai with hai | hai
            · rw [hai] at a1
              go_wp2_with fail
              go_roundw
              case rel => exact ⟨k + 1, s, wth f kk, top, sm, by rw [HCW.out, HCL.out]; go_num, rfl, by go_num, by omega, by omega, M7.out, HV3.out⟩
              case measure => simp [intOf]; omega
            · rw [hai] at a1
              go_wp2_with fail
              go_roundw
              case rel => exact ⟨k + 1, s, wth f kk, top, sm, by rw [HCW.out, HCL.out]; go_num, rfl, by go_num, by omega, by omega, M7.out, HV3.out⟩
              case measure => simp [intOf]; omega
      · as_aux_lemma =>
            have C := HC.out
            rw [HV.out.seen hpk hfk] at C
            have HV3 := Lib.hid HV.out.next
            simp only at C
            clear HC
            have d1 := SS.out.1; have d2 := SS.out.2.1; have d3 := SS.out.2.2.1; have d4 := SS.out.2.2.2.1; have d5 := SS.out.2.2.2.2.1; have d6 := SS.out.2.2.2.2.2.1; have d7 := SS.out.2.2.2.2.2.2.1; have d8 := SS.out.2.2.2.2.2.2.2
            go_region_held3 (fun w' => w'.cell? ⟨bb, 0, none⟩ = some (.int .u32 7) ∧ w'.cell? ⟨bb, 1, none⟩ = some (.int .u8 3) ∧ w'.cell? ⟨g, o + k * 5 + 1, none⟩ = some (.bool q.a.is) ∧ w'.cell? ⟨g, o + k * 5 + 2, none⟩ = some (.int .u32 q.a.b.round) ∧ w'.cell? ⟨g, o + k * 5 + 3, none⟩ = some (.int .u8 q.a.b.node) ∧ w'.cell? ⟨g, o + k * 5 + 4, none⟩ = some (.string q.a.v) ∧ bb < w'.heap.size ∧ g < w'.heap.size)
              (first | with_reducible assumption | with_reducible exact HS6.out | with_reducible exact dKeep SS.out (Keep.of_below (Below.refl _ wr).drew []) (by simp))
              (first | (go_at_call 14; with_reducible refine C.mono ?_; rintro e w6 ⟨rfl, t6, k6⟩; have HS6 := Lib.hid (dKeep (dKeep SS.out (Keep.of_below (Below.refl _ wr).drew []) (by simp)) k6 HNB.out); have T6 := Lib.hid t6; have K6 := Lib.hid k6; clear t6 k6))
            have M6 := Lib.hid ((M1.out.below (Below.refl _ _).drew).turn (s' := s) T6.out K6.out)
            clear C T6 K6 M1 HS6 SS d1 d2 d3 d4 d5 d6 d7 d8
            obtain ⟨z1, z2⟩ := Row9.at_ M6.out.se kk (by omega)
            rw [hfk] at z1
            go_wp2_with fail
            go_roundw
            case rel => exact ⟨k + 1, s, f, top, sm, rfl, rfl, by go_num, by omega, by omega, M6.out, HV3.out⟩
            case measure => simp [intOf]; omega
    · have HB := Lib.hid hM.bel
      clear hM hV
      by_cases h1 : k < len
      · have h2 : ¬ k < 60 := fun h => hlt ⟨h1, h⟩
        have h1i : (k : Int) < (len : Int) := by omega
        have h2i : (60 : Int) ≤ (k : Int) := by omega
        clear hlt
        go_wp2_with fail
        go_ret
        exact ⟨rfl, HB.out⟩
      · have h1i : (len : Int) ≤ (k : Int) := by omega
        clear hlt
        go_wp2_with fail
        go_ret
        exact ⟨rfl, HB.out⟩
end Go.Proofs.Ytgfalpiifgoonaa
