/- LeaseThere: the walk. -/
import Derived.Test.YtikeiocgnjdhbaaLd
namespace Go.Proofs.Ytikeiocgnjdhbaa
open Go.RowKit Go.Sort
set_option linter.unusedVariables false
set_option linter.unusedSimpArgs false
set_option maxRecDepth 100000

set_option maxHeartbeats 4000000 in
theorem leaseThere_law (a : Int) (wa : (Lit.int .i64 a).wf = true) (f : Int) (wf : (Lit.int .i64 f).wf = true) (z : Int) (wz : (Lit.int .i64 z).wf = true) (b : Int) (wb : (Lit.int .i64 b).wf = true) (w : World) :
    Calls Try.prog 7 #[.int .i64 a, .agg #[.int .i64 f, .int .i64 z], .int .i64 b] w (LawOk w) := by
  have ha := bounds_i64 wa; have hb := bounds_i64 wb
  clear wa wb wf wz
  have hz := zero_run
  go_enter Try.func7, Try.ntmps7
  go_upto_region 1 with (fail)
  have m1 := ((Holds.nil w).new2 (.int .i64 f) (.int .i64 z) 37)
  obtain ⟨g1, g2, g3⟩ := m1.two
  have HW := Lib.hid (show Below w.heap.size w (w.alloc (.cells #[.int .i64 f, .int .i64 z] 37)) from below_alloc (Below.refl _ _) _)
  have HG := Lib.hid (And.intro g1 g2)
  have hA : w.heap.size < (w.alloc (.cells #[.int .i64 f, .int .i64 z] 37)).heap.size := by simp
  clear m1 g1 g2 g3
  generalize w.alloc (.cells #[.int .i64 f, .int .i64 z] 37) = W at *
  go_upto_if 19 with (fail)
  go_cut [0] from 18 to 22 (fun s wx => ∃ r : Nat, s = .int .i64 (r : Int) ∧ r ≤ 9223372036854775807 ∧ W = wx)
  case first =>
    as_aux_lemma =>
      by_cases h0 : a < 0
      · obtain ⟨r, hr⟩ : ∃ r : Nat, (r : Int) = -(a + 1) := ⟨(-(a + 1)).toNat, by omega⟩
        have e0 : decide (a < 0) = true := by simpa using h0
        go_wp2_with fail
        go_meet
        case rel => exact ⟨r, by rw [hr], by omega, rfl⟩
      · obtain ⟨r, rfl⟩ : ∃ r : Nat, a = r := ⟨a.toNat, by omega⟩
        have e0 : decide ((r : Int) < 0) = false := by simp
        go_wp2_with fail
        go_meet
        case rel => exact ⟨r, rfl, by omega, rfl⟩
  case rest =>
    obtain ⟨r, rfl, hr, rfl⟩ := hcut
    go_upto_if 24 with (fail)
    go_cut [2] from 23 to 27 (fun s wx => ∃ q : Nat, s = .int .i64 (q : Int) ∧ q ≤ 9223372036854775807 ∧ W = wx)
    case first =>
      as_aux_lemma =>
        by_cases h0 : b < 0
        · obtain ⟨q, hq⟩ : ∃ q : Nat, (q : Int) = -(b + 1) := ⟨(-(b + 1)).toNat, by omega⟩
          have e0 : decide (b < 0) = true := by simpa using h0
          go_wp2_with fail
          go_meet
          case rel => exact ⟨q, by rw [hq], by omega, rfl⟩
        · obtain ⟨q, rfl⟩ : ∃ q : Nat, b = q := ⟨b.toNat, by omega⟩
          have e0 : decide ((q : Int) < 0) = false := by simp
          go_wp2_with fail
          go_meet
          case rel => exact ⟨q, rfl, by omega, rfl⟩
    case rest =>
      obtain ⟨t, rfl, ht, rfl⟩ := hcut
      clear ha hb hr ht
      obtain ⟨m9, em9, hm9⟩ : ∃ m : Nat, r % 9 = m ∧ m < 9 := ⟨_, rfl, Nat.mod_lt _ (by omega)⟩
      have t1 : (r : Int).tmod 9 = (m9 : Int) := by rw [Int.tmod_eq_emod_of_nonneg (by omega)]; omega
      have u1 : (r : Int) % 9 = (m9 : Int) := by omega
      obtain ⟨n, hn⟩ : ∃ n : Nat, n = 4 + m9 := ⟨_, rfl⟩
      have v1 : (4 : Int) + (m9 : Int) = (n : Int) := by omega
      have n0 : 4 ≤ n := by omega
      have n1 : n ≤ 12 := by omega
      have hn12 : (n : Int) ≤ 12 := by omega
      clear hn em9
      have NW := Lib.hid (fun w => new_yes n n0 n1 w)
      go_wp2_with fail
      refine (NW.out _).mono ?_
      rintro e w1 ⟨rfl, l1⟩
      obtain ⟨h2, l2, hlt2⟩ := laid_tb (w := w1) (T := newT n) (U := Tb.zero)
      have H1 := Lib.hid (TbR.new w1 Tb.zero)
      have HT := Lib.hid h2
      have hok := Lib.hid (newT_ok n n0 n1)
      have sT := newT_sz n
      have HVer : Hid ((newT n).ver = 1) := Lib.hid rfl
      have HTm := Lib.hid (fun k hk => newT_m n k hk)
      replace HG := Lib.hid (And.intro ((l2.cell (p := ⟨w.heap.size, 0, none⟩) (Nat.lt_of_lt_of_le hA l1.size)).trans ((l1.cell (p := ⟨w.heap.size, 0, none⟩) hA).trans HG.out.1)) ((l2.cell (p := ⟨w.heap.size, 1, none⟩) (Nat.lt_of_lt_of_le hA l1.size)).trans ((l1.cell (p := ⟨w.heap.size, 1, none⟩) hA).trans HG.out.2)))
      replace HW := Lib.hid (below_next (below_next HW.out l1) l2)
      have hA1 : w.heap.size < w1.heap.size := Nat.lt_of_lt_of_le hA l1.size
      clear h2 l2 l1 NW t1 u1 v1
      generalize newT n = T at *
      go_upto_region 7 with (first
        | (refine store_tb (U := T) rfl rfl rfl rfl H1.out Tb.zero_sz sT ?_))
      clear H1
      generalize (w1.alloc (.cells ⟨Tb.zero.list⟩ 29)).setRow w1.heap.size ⟨T.list⟩ = W2 at *
      have hbT : w1.heap.size < W2.heap.size := hlt2
      clear hlt2
      generalize w1.heap.size = bT at *
      go_wp2_with fail
      refine (alive_any _).mono ?_
      rintro e w3 ⟨rfl, l3⟩
      replace HT := Lib.hid (HT.out.keep l3)
      have hA3 : w.heap.size < w3.heap.size := by have := l3.size; omega
      have hbT3 : bT < w3.heap.size := by have := l3.size; omega
      have c0 := (l3.cell (p := ⟨w.heap.size, 0, none⟩) (by simp; omega)).trans HG.out.1
      have c1 := (l3.cell (p := ⟨w.heap.size, 1, none⟩) (by simp; omega)).trans HG.out.2
      replace HW := Lib.hid (below_next HW.out l3)
      clear l3 HG hbT hA
      by_cases hf : 0 ≤ f ∧ f ≤ 63
      · obtain ⟨F, rfl⟩ : ∃ F : Nat, f = F := ⟨f.toNat, by omega⟩
        have hF : F < 64 := by omega
        have hF0 : decide ((F : Int) < 0) = false := by simp
        have hF1 : decide (63 < (F : Int)) = false := by simp; omega
        obtain ⟨B, hB, hB12, hBm⟩ := hok.out.o F hF
        have cF := HT.out.own sT hF
        rw [hB] at cF
        have HB := Lib.hid hB
        clear hB hf
        obtain ⟨m, hm⟩ : ∃ m, t % n = m := ⟨_, rfl⟩
        have hmn : m < n := by rw [← hm]; exact Nat.mod_lt _ (by omega)
        have e1 : (t : Int).tmod (n : Int) = (m : Int) := by rw [Int.tmod_eq_emod_of_nonneg (by omega), ← hm]; rfl
        have e2 : (t : Int) % (n : Int) = (m : Int) := by rw [← hm]; rfl
        clear hm
        go_upto_region 10 with (fail)
        clear hF0 hF1 cF
        have AP := Lib.hid (apply_any T sT ⟨2, m, B, F, z, 0, 0⟩ (by rw [HVer.out]; decide) hok.out.r (by show (0 : Int) ≤ 0; omega) (by show (0 : Int) ≤ 4294967295; omega))
        go_region
        have hD := (DcR.new w3 ⟨2, m, B, F, z, 0, 0⟩).keep ((Below.refl _ _).drew)
        have hl := (below_alloc (Below.refl w3.heap.size w3) (.cells (Dc.cells ⟨2, m, B, F, z, 0, 0⟩) 39)).drew
        replace HT := Lib.hid (HT.out.keep hl)
        replace c0 := (hl.cell (p := ⟨w.heap.size, 0, none⟩) hA3).trans c0
        replace c1 := (hl.cell (p := ⟨w.heap.size, 1, none⟩) hA3).trans c1
        replace HW := Lib.hid (below_next HW.out hl)
        replace hA3 := Nat.lt_of_lt_of_le hA3 hl.size
        generalize (w3.alloc (.cells (Dc.cells ⟨2, m, B, F, z, 0, 0⟩) 39)).drew = w4 at *
        generalize w3.heap.size = bD at *
        clear hl hbT3
        have k0 : w4.cell? ⟨bD, 0, none⟩ = some (.int .i64 2) := hD.kk
        have k1 : w4.cell? ⟨bD, 1, none⟩ = some (.int .i64 (m : Int)) := hD.nn
        have k2 : w4.cell? ⟨bD, 2, none⟩ = some (.int .i64 (B : Int)) := hD.bb
        have k3 : w4.cell? ⟨bD, 3, none⟩ = some (.int .i64 (F : Int)) := hD.ff
        have k4 : w4.cell? ⟨bD, 4, none⟩ = some (.int .i64 z) := hD.zz
        have k5 : w4.cell? ⟨bD, 5, none⟩ = some (.int .u32 0) := hD.cc
        have k6 : w4.cell? ⟨bD, 6, none⟩ = some (.int .u32 0) := hD.ss
        clear hD
        go_wp2_with (first
          | (refine load_tb (T := T) rfl rfl rfl HT.out sT ?_))
        refine (AP.out _).mono ?_
        rintro e w5 ⟨rfl, l5⟩
        replace HT := Lib.hid (HT.out.keep l5)
        replace c0 := (l5.cell (p := ⟨w.heap.size, 0, none⟩) hA3).trans c0
        replace c1 := (l5.cell (p := ⟨w.heap.size, 1, none⟩) hA3).trans c1
        replace HW := Lib.hid (below_next HW.out l5)
        replace hA3 := Nat.lt_of_lt_of_le hA3 l5.size
        clear l5 k0 k1 k2 k3 k4 k5 k6 AP
        by_cases h0 : refuse T ⟨2, m, B, F, z, 0, 0⟩ = 0
        · rw [show apR T ⟨2, m, B, F, z, 0, 0⟩ = .tuple #[.agg ⟨(behindT T ⟨2, m, B, F, z, 0, 0⟩).list⟩, .int .i64 0] by unfold apR apT; rw [if_pos h0, h0]]
          obtain ⟨y1, y2, y3, y4, y5⟩ := there_facts hok.out (by rw [HVer.out]; omega) h0
          have hokU := apT_ok hok.out ⟨2, m, B, F, z, 0, 0⟩ (by show (0 : Int) ≤ 0; omega) (by show (0 : Int) ≤ 4294967295; omega)
          unfold apT at hokU
          rw [if_pos h0] at hokU
          have AP2 := apply_any (behindT T ⟨2, m, B, F, z, 0, 0⟩) hokU.sz ⟨2, B, m, F, z, 0, 0⟩ (by have := hokU.v0; omega) hokU.r (by show (0 : Int) ≤ 0; omega) (by show (0 : Int) ≤ 4294967295; omega)
          rw [show apR (behindT T ⟨2, m, B, F, z, 0, 0⟩) ⟨2, B, m, F, z, 0, 0⟩ = .tuple #[.agg ⟨(behindT (behindT T ⟨2, m, B, F, z, 0, 0⟩) ⟨2, B, m, F, z, 0, 0⟩).list⟩, .int .i64 0] by unfold apR apT; rw [if_pos y1, y1]] at AP2
          replace AP2 := Lib.hid AP2
          have sU := hokU.sz
          have sV := behindT_sz sU ⟨2, B, m, F, z, 0, 0⟩
          have Y2 := Lib.hid y2; have Y3 := Lib.hid y3; have Y4 := Lib.hid y4; have Y5 := Lib.hid y5
          clear y1 y2 y3 y4 y5 hokU h0
          generalize behindT (behindT T ⟨2, m, B, F, z, 0, 0⟩) ⟨2, B, m, F, z, 0, 0⟩ = V at *
          generalize behindT T ⟨2, m, B, F, z, 0, 0⟩ = U at *
          obtain ⟨h2, l2, hlt2⟩ := laid_tb (w := w5) (T := U) (U := Tb.zero)
          have H1 := Lib.hid (TbR.new w5 Tb.zero)
          have HU := Lib.hid h2
          replace HT := Lib.hid (HT.out.keep l2)
          replace c0 := (l2.cell (p := ⟨w.heap.size, 0, none⟩) hA3).trans c0
          replace c1 := (l2.cell (p := ⟨w.heap.size, 1, none⟩) hA3).trans c1
          replace HW := Lib.hid (below_next HW.out l2)
          have hA6 := Nat.lt_of_lt_of_le hA3 l2.size
          clear h2 l2 hA3 hlt2
          go_upto_region 14 with (first
            | (refine store_tb (U := U) rfl rfl rfl rfl H1.out Tb.zero_sz sU ?_))
          clear H1
          generalize (w5.alloc (.cells ⟨Tb.zero.list⟩ 29)).setRow w5.heap.size ⟨U.list⟩ = w6 at *
          generalize w5.heap.size = bU at *
          go_cut [14, 15] from 75 to 85 (fun sT sE wx => ∃ bV, sT = .pointer (some ⟨bV, 0, none⟩) ∧ sE = .int .i64 0 ∧ w6.heap.size ≤ bV ∧ TbR wx bV V ∧ Below w6.heap.size w6 wx)
          case first =>
            as_aux_lemma =>
              refine wp_region_held_drew (S := fun w' => Below w6.heap.size w6 w') (by kernel_rfl) ((Below.refl _ _).drew) (fun s0 => ?_)
              generalize w6.drew = wd at *
              refine wpAnyH_take (i := 0) (v := .agg ⟨U.list⟩) rfl (by kernel_rfl) (by kernel_rfl) (by kernel_rfl) (fun _ _ _ h => h) (Or.inl ⟨by rfl, fun w' hw' => by exact exec_load 29 (.tmp 12) rfl rfl ((HU.out.keep hw').load sU)⟩) s0 ?_
              try simp only [Act.put, List.getElem_toArray, List.getElem_cons_succ, List.getElem_cons_zero, List.setIfInBounds_toArray, List.set_cons_zero, List.set_cons_succ, Nat.zero_add, List.nil_append]
              refine wpAnyH_take (i := 1) (v := .int .i64 (B : Int)) rfl (by kernel_rfl) (by kernel_rfl) (by kernel_rfl) (fun _ _ _ h => h) (Or.inl ⟨by rfl, fun w' hw' => by go_simp⟩) s0 ?_
              try simp only [Act.put, List.getElem_toArray, List.getElem_cons_succ, List.getElem_cons_zero, List.setIfInBounds_toArray, List.set_cons_zero, List.set_cons_succ, Nat.zero_add, List.nil_append]
              refine wpAnyH_take (i := 2) (v := .int .i64 (t : Int)) rfl (by kernel_rfl) (by kernel_rfl) (by kernel_rfl) (fun _ _ _ h => h) (Or.inl ⟨by rfl, fun w' hw' => by go_simp⟩) s0 ?_
              try simp only [Act.put, List.getElem_toArray, List.getElem_cons_succ, List.getElem_cons_zero, List.setIfInBounds_toArray, List.set_cons_zero, List.set_cons_succ, Nat.zero_add, List.nil_append]
              refine wpAnyH_take (i := 3) (v := .int .i64 (n : Int)) rfl (by kernel_rfl) (by kernel_rfl) (by kernel_rfl) (fun _ _ _ h => h) (Or.inl ⟨by rfl, fun w' hw' => by go_simp⟩) s0 ?_
              try simp only [Act.put, List.getElem_toArray, List.getElem_cons_succ, List.getElem_cons_zero, List.setIfInBounds_toArray, List.set_cons_zero, List.set_cons_succ, Nat.zero_add, List.nil_append]
              refine wpAnyH_take (i := 4) (v := .int .i64 (m : Int)) rfl (by kernel_rfl) (by kernel_rfl) (by kernel_rfl) (fun _ _ _ h => h) (Or.inl ⟨by rfl, fun w' hw' => by go_simp; omega⟩) s0 ?_
              try simp only [Act.put, List.getElem_toArray, List.getElem_cons_succ, List.getElem_cons_zero, List.setIfInBounds_toArray, List.set_cons_zero, List.set_cons_succ, Nat.zero_add, List.nil_append]
              refine wpAnyH_take (i := 5) (v := .agg #[.int .i64 (F : Int), .int .i64 z]) rfl (by kernel_rfl) (by kernel_rfl) (by kernel_rfl) (fun _ _ _ h => h) (Or.inl ⟨by rfl, fun w' hw' => by have z0 := (hw'.cell (p := ⟨w.heap.size, 0, none⟩) hA6).trans c0; have z1 := (hw'.cell (p := ⟨w.heap.size, 1, none⟩) hA6).trans c1; go_simp⟩) s0 ?_
              try simp only [Act.put, List.getElem_toArray, List.getElem_cons_succ, List.getElem_cons_zero, List.setIfInBounds_toArray, List.set_cons_zero, List.set_cons_succ, Nat.zero_add, List.nil_append]
              refine wpAnyH_take (i := 6) (v := .agg #[.int .i64 2, .int .i64 (B : Int), .int .i64 (m : Int), .int .i64 (F : Int), .int .i64 z, .int .u32 0, .int .u32 0]) rfl (by kernel_rfl) (by kernel_rfl) (by kernel_rfl) (fun _ _ _ h => h) (Or.inl ⟨by rfl, fun w' hw' => by go_simp⟩) s0 ?_
              try simp only [Act.put, List.getElem_toArray, List.getElem_cons_succ, List.getElem_cons_zero, List.setIfInBounds_toArray, List.set_cons_zero, List.set_cons_succ, Nat.zero_add, List.nil_append]
              refine wpAnyH_ready (rs := [7, 11]) (by kernel_rfl) (by simp) ?_
              refine AllReadyH.cons rfl (fun K hK => ?_) (AllReadyH.cons rfl (fun K hK => ?_) AllReadyH.nil)
              · skip
                rw [if_pos (by rfl)]
                go_simp
                refine (AP2.out wd).mono ?_; rintro e w2 ⟨rfl, b2⟩
                have s1 := below_next s0 b2
      
                clear b2
                go_simp
                refine hK.out _ _ s1 (fun _ => ?_)
                clear hK K
                try simp only [Act.put, List.getElem_toArray, List.getElem_cons_succ, List.getElem_cons_zero, List.setIfInBounds_toArray, List.set_cons_zero, List.set_cons_succ, Nat.zero_add, List.nil_append]
                refine wpAnyH_take (i := 8) (v := .tuple #[.agg ⟨(V).list⟩, .int .i64 0]) rfl (by kernel_rfl) (by kernel_rfl) (by kernel_rfl) (fun _ _ _ h => h) (Or.inl ⟨by rfl, fun w' hw' => by go_simp⟩) s1 ?_
                try simp only [Act.put, List.getElem_toArray, List.getElem_cons_succ, List.getElem_cons_zero, List.setIfInBounds_toArray, List.set_cons_zero, List.set_cons_succ, Nat.zero_add, List.nil_append]
                refine wpAnyH_take (i := 9) (v := .agg ⟨(V).list⟩) rfl (by kernel_rfl) (by kernel_rfl) (by kernel_rfl) (fun _ _ _ h => h) (Or.inl ⟨by rfl, fun w' hw' => by go_simp⟩) s1 ?_
                try simp only [Act.put, List.getElem_toArray, List.getElem_cons_succ, List.getElem_cons_zero, List.setIfInBounds_toArray, List.set_cons_zero, List.set_cons_succ, Nat.zero_add, List.nil_append]
                refine wpAnyH_take (i := 10) (v := .int .i64 0) rfl (by kernel_rfl) (by kernel_rfl) (by kernel_rfl) (fun _ _ _ h => h) (Or.inl ⟨by rfl, fun w' hw' => by go_simp⟩) s1 ?_
                try simp only [Act.put, List.getElem_toArray, List.getElem_cons_succ, List.getElem_cons_zero, List.setIfInBounds_toArray, List.set_cons_zero, List.set_cons_succ, Nat.zero_add, List.nil_append]
                refine wpAnyH_ready (rs := [11]) (by kernel_rfl) (by simp) ?_
                refine AllReadyH.cons rfl (fun K hK => ?_) AllReadyH.nil
                rw [if_pos (by rfl)]
                go_simp
                have r3 := TbR.new w2 Tb.zero
                have s2 := below_alloc s1 (.cells ⟨Tb.zero.list⟩ 29)
                have hbs := s1.size
                generalize w2.alloc (.cells ⟨Tb.zero.list⟩ 29) = w3z at *
                obtain ⟨bx, hbx⟩ : ∃ q, q = w2.heap.size := ⟨_, rfl⟩
                rw [← hbx] at r3 hbs ⊢
                clear hbx
                refine hK.out _ _ s2 (fun _ => ?_)
                clear hK K
                try simp only [Act.put, List.getElem_toArray, List.getElem_cons_succ, List.getElem_cons_zero, List.setIfInBounds_toArray, List.set_cons_zero, List.set_cons_succ, Nat.zero_add, List.nil_append]
                refine wpAnyH_ready (rs := [12]) (by kernel_rfl) (by simp) ?_
                refine AllReadyH.cons rfl (fun K hK => ?_) AllReadyH.nil
                rw [if_pos (by rfl)]
                refine wp_store_row 29 (.tmp 14) (.tmp 84) rfl bx ⟨(V).list⟩ rfl rfl 29 _ r3 (by rw [List.size_toArray, sV.len, tb_info]) (by simp [Tb.zero_sz.len, sV.len]) (tb_one _) ?_
                have s9 : Below w6.heap.size w6 (w3z.setRow bx ⟨(V).list⟩) := below_setRow s2 bx _ hbs
                have HXR := Lib.hid (r3.setRow (V))
                generalize w3z.setRow bx ⟨(V).list⟩ = wz at *
                refine hK.out _ _ s9 (fun _ => ?_)
                clear hK K
                try simp only [Act.put, List.getElem_toArray, List.getElem_cons_succ, List.getElem_cons_zero, List.setIfInBounds_toArray, List.set_cons_zero, List.set_cons_succ, Nat.zero_add, List.nil_append]
                refine wpAnyH_take (i := 13) (v := .int .i64 0) rfl (by kernel_rfl) (by kernel_rfl) (by kernel_rfl) (fun _ _ _ h => h) (Or.inl ⟨by rfl, fun w' hw' => by go_simp⟩) s9 ?_
                try simp only [Act.put, List.getElem_toArray, List.getElem_cons_succ, List.getElem_cons_zero, List.setIfInBounds_toArray, List.set_cons_zero, List.set_cons_succ, Nat.zero_add, List.nil_append]
                refine wpAnyH_done (by kernel_rfl) ?_ _
                have HZB := Lib.hid s9
                have HBS := Lib.hid hbs
                clear r3 hbs s9 s0 s1 s2
                go_wp2_with fail
                go_meet
                case rel => exact ⟨_, rfl, rfl, HBS.out, HXR.out, HZB.out⟩
              · skip
                rw [if_pos (by rfl)]
                go_simp
                have r3 := TbR.new wd Tb.zero
                have s1 := below_alloc s0 (.cells ⟨Tb.zero.list⟩ 29)
                have hbs := s0.size
                generalize wd.alloc (.cells ⟨Tb.zero.list⟩ 29) = w2 at *
                obtain ⟨bx, hbx⟩ : ∃ q, q = wd.heap.size := ⟨_, rfl⟩
                rw [← hbx] at r3 hbs ⊢
                clear hbx
                refine hK.out _ _ s1 (fun _ => ?_)
                clear hK K
                try simp only [Act.put, List.getElem_toArray, List.getElem_cons_succ, List.getElem_cons_zero, List.setIfInBounds_toArray, List.set_cons_zero, List.set_cons_succ, Nat.zero_add, List.nil_append]
                refine wpAnyH_ready (rs := [7]) (by kernel_rfl) (by simp) ?_
                refine AllReadyH.cons rfl (fun K hK => ?_) AllReadyH.nil
                rw [if_pos (by rfl)]
                go_simp
                refine (AP2.out w2).mono ?_; rintro e w3z ⟨rfl, b2⟩
                have s2 := below_next s1 b2
                have r3 := r3.keep b2
                clear b2
                go_simp
                refine hK.out _ _ s2 (fun _ => ?_)
                clear hK K
                try simp only [Act.put, List.getElem_toArray, List.getElem_cons_succ, List.getElem_cons_zero, List.setIfInBounds_toArray, List.set_cons_zero, List.set_cons_succ, Nat.zero_add, List.nil_append]
                refine wpAnyH_take (i := 8) (v := .tuple #[.agg ⟨(V).list⟩, .int .i64 0]) rfl (by kernel_rfl) (by kernel_rfl) (by kernel_rfl) (fun _ _ _ h => h) (Or.inl ⟨by rfl, fun w' hw' => by go_simp⟩) s2 ?_
                try simp only [Act.put, List.getElem_toArray, List.getElem_cons_succ, List.getElem_cons_zero, List.setIfInBounds_toArray, List.set_cons_zero, List.set_cons_succ, Nat.zero_add, List.nil_append]
                refine wpAnyH_take (i := 9) (v := .agg ⟨(V).list⟩) rfl (by kernel_rfl) (by kernel_rfl) (by kernel_rfl) (fun _ _ _ h => h) (Or.inl ⟨by rfl, fun w' hw' => by go_simp⟩) s2 ?_
                try simp only [Act.put, List.getElem_toArray, List.getElem_cons_succ, List.getElem_cons_zero, List.setIfInBounds_toArray, List.set_cons_zero, List.set_cons_succ, Nat.zero_add, List.nil_append]
                refine wpAnyH_take (i := 10) (v := .int .i64 0) rfl (by kernel_rfl) (by kernel_rfl) (by kernel_rfl) (fun _ _ _ h => h) (Or.inl ⟨by rfl, fun w' hw' => by go_simp⟩) s2 ?_
                try simp only [Act.put, List.getElem_toArray, List.getElem_cons_succ, List.getElem_cons_zero, List.setIfInBounds_toArray, List.set_cons_zero, List.set_cons_succ, Nat.zero_add, List.nil_append]
                refine wpAnyH_ready (rs := [12]) (by kernel_rfl) (by simp) ?_
                refine AllReadyH.cons rfl (fun K hK => ?_) AllReadyH.nil
                rw [if_pos (by rfl)]
                refine wp_store_row 29 (.tmp 14) (.tmp 84) rfl bx ⟨(V).list⟩ rfl rfl 29 _ r3 (by rw [List.size_toArray, sV.len, tb_info]) (by simp [Tb.zero_sz.len, sV.len]) (tb_one _) ?_
                have s9 : Below w6.heap.size w6 (w3z.setRow bx ⟨(V).list⟩) := below_setRow s2 bx _ hbs
                have HXR := Lib.hid (r3.setRow (V))
                generalize w3z.setRow bx ⟨(V).list⟩ = wz at *
                refine hK.out _ _ s9 (fun _ => ?_)
                clear hK K
                try simp only [Act.put, List.getElem_toArray, List.getElem_cons_succ, List.getElem_cons_zero, List.setIfInBounds_toArray, List.set_cons_zero, List.set_cons_succ, Nat.zero_add, List.nil_append]
                refine wpAnyH_take (i := 13) (v := .int .i64 0) rfl (by kernel_rfl) (by kernel_rfl) (by kernel_rfl) (fun _ _ _ h => h) (Or.inl ⟨by rfl, fun w' hw' => by go_simp⟩) s9 ?_
                try simp only [Act.put, List.getElem_toArray, List.getElem_cons_succ, List.getElem_cons_zero, List.setIfInBounds_toArray, List.set_cons_zero, List.set_cons_succ, Nat.zero_add, List.nil_append]
                refine wpAnyH_done (by kernel_rfl) ?_ _
                have HZB := Lib.hid s9
                have HBS := Lib.hid hbs
                clear r3 hbs s9 s0 s1 s2
                go_wp2_with fail
                go_meet
                case rel => exact ⟨_, rfl, rfl, HBS.out, HXR.out, HZB.out⟩
          case rest =>

            obtain ⟨bV, rfl, rfl, hbV, hV, hl⟩ := hcut
            replace HT := Lib.hid (HT.out.keep hl)
            replace HU := Lib.hid (HU.out.keep hl)
            replace c0 := (hl.cell (p := ⟨w.heap.size, 0, none⟩) hA6).trans c0
            replace c1 := (hl.cell (p := ⟨w.heap.size, 1, none⟩) hA6).trans c1
            replace HW := Lib.hid (below_next HW.out hl)
            have hA9 := Nat.lt_of_lt_of_le hA6 hl.size
            have LV := hV.load_own sV
            have LVi := hV.load_inc sV
            have LU := HU.out.load_inc sU
            rw [Y2.out] at LV
            rw [Y3.out] at LVi
            rw [Y4.out] at LU
            have L1 := Lib.hid LV; have L2 := Lib.hid LVi; have L3 := Lib.hid LU
            have L4 := Lib.hid (HT.out.load_own sT); have L5 := Lib.hid (HT.out.load_inc sT)
            clear LV LVi LU hl hbV hV hA6 AP2
            go_wp2_with (first
              | (refine load_w (by rfl) rfl rfl L1.out ?_)
              | (refine load_w (by rfl) rfl rfl L2.out ?_)
              | (refine load_w (by rfl) rfl rfl L3.out ?_)
              | (refine load_w (by rfl) rfl rfl L4.out ?_)
              | (refine load_w (by rfl) rfl rfl L5.out ?_)
              | (refine wpList_wanted (by rfl) _ (exec_bin .neq 24 24 _ _ rfl rfl rfl (neq_own T.own sT.o _) (run_eqGuard_agg _ _ _ _ _ _ _ (by kernel_rfl))) ?_)
              | (refine wpList_wanted (by rfl) _ (exec_bin .neq 25 25 _ _ rfl rfl rfl (neq_inc T.inc sT.i _) (run_eqGuard_agg _ _ _ _ _ _ _ (by kernel_rfl))) ?_))
            clear L1 L2 L3 L4 L5
            have hn0 : ¬ (n : Int) = 0 := by omega
            have hn00 : ((n : Int) == 0) = false := by simp; omega
            go_loopw [16, 17] (fun i _ wr => ∃ k : Nat, k ≤ 64 ∧ i = .int .i64 (k : Int) ∧ Below wc.heap.size wc wr) (fun i _ _ => 64 - (intOf i).toNat)
            case atStart => exact ⟨0, Nat.zero_le _, rfl, Below.refl _ _⟩
            case round =>
              obtain ⟨k, hk, rfl, hb⟩ := hrel
              replace c0 := (hb.cell (p := ⟨w.heap.size, 0, none⟩) hA9).trans c0
              replace c1 := (hb.cell (p := ⟨w.heap.size, 1, none⟩) hA9).trans c1
              have HB9 := Lib.hid hb
              have HTk := Lib.hid (HT.out.keep hb)
              have HUk := Lib.hid (HU.out.keep hb)
              clear hb
              by_cases hlt : k < 64
              · have CH := Lib.hid (has_any (F : Int) z (k : Int))
                have y := Y5.out k hlt
                cases hh : hasB (F : Int) z (k : Int)
                · rw [hh] at CH
                  have ye := y.2 hh
                  clear y hh
                  go_wp2_with fail
                  refine (CH.out _).mono ?_
                  rintro e wx ⟨rfl, lx⟩
                  have cT := (HTk.out.keep lx).own sT hlt
                  have cU := (HUk.out.keep lx).own sU hlt
                  rw [ye] at cU
                  clear ye
                  generalize T.o k = x at *
                  have HBx := Lib.hid (below_next HB9.out lx)
                  clear lx c0 c1
                  go_upto_region 21 with (fail)
                  replace cT := cell_regrown cT
                  replace cU := cell_regrown cU
                  refine wp_region_quiet_below (by kernel_rfl) (by kernel_rfl) ?_
                  repeat (go_big_quiet_step (fail))
                  refine wpQuiet_nil ?_
                  intro _ hw'
                  obtain ⟨⟨dq, osq⟩, hw''⟩ := hw'
                  subst hw''
                  have lk := below_regrown wx dq osq
                  replace HBx := Lib.hid (below_next HBx.out lk)
                  generalize grow (redrawn wx dq) osq = wy at *
                  clear lk cT cU
                  go_wp2_with fail
                  go_roundw
                  case rel => exact ⟨k + 1, by omega, by go_num, HBx.out⟩
                  case measure => simp [intOf]; omega
                · rw [hh] at CH
                  have ye := y.1 hh
                  clear y hh
                  go_wp2_with fail
                  refine (CH.out _).mono ?_
                  rintro e wx ⟨rfl, lx⟩
                  have cT := (HTk.out.keep lx).own sT hlt
                  have cU := (HUk.out.keep lx).own sU hlt
                  rw [ye.1] at cT
                  rw [ye.2] at cU
                  clear ye
                  have HBx := Lib.hid (below_next HB9.out lx)
                  clear lx c0 c1
                  go_upto_region 21 with (fail)
                  replace cT := cell_regrown cT
                  replace cU := cell_regrown cU
                  refine wp_region_quiet_below (by kernel_rfl) (by kernel_rfl) ?_
                  repeat (go_big_quiet_step (fail))
                  refine wpQuiet_nil ?_
                  intro _ hw'
                  obtain ⟨⟨dq, osq⟩, hw''⟩ := hw'
                  subst hw''
                  have lk := below_regrown wx dq osq
                  replace HBx := Lib.hid (below_next HBx.out lk)
                  generalize grow (redrawn wx dq) osq = wy at *
                  clear lk cT cU
                  go_wp2_with fail
                  go_roundw
                  case rel => exact ⟨k + 1, by omega, by go_num, HBx.out⟩
                  case measure => simp [intOf]; omega
              · obtain rfl : 64 = k := by omega
                go_wp2_with fail
                go_ret
                exact ⟨rfl, below_next HW.out HB9.out⟩
        · have h0' := Lib.hid h0
          rw [show apR T ⟨2, m, B, F, z, 0, 0⟩ = .tuple #[.agg ⟨T.list⟩, .int .i64 (refuse T ⟨2, m, B, F, z, 0, 0⟩)] by unfold apR apT; rw [if_neg h0]]
          have hne : (refuse T ⟨2, m, B, F, z, 0, 0⟩ != 0) = true := by simpa using h0
          clear h0
          generalize refuse T ⟨2, m, B, F, z, 0, 0⟩ = y at *
          replace h0' : ¬ y = 0 := h0'.out
          obtain ⟨h2, l2, hlt2⟩ := laid_tb (w := w5) (T := T) (U := Tb.zero)
          have H1 := Lib.hid (TbR.new w5 Tb.zero)
          have HU := Lib.hid h2
          replace HT := Lib.hid (HT.out.keep l2)
          replace HW := Lib.hid (below_next HW.out l2)
          clear h2 l2 hlt2 c0 c1
          go_upto_region 12 with (first
            | (refine store_tb (U := T) rfl rfl rfl rfl H1.out Tb.zero_sz sT ?_))
          clear H1
          generalize (w5.alloc (.cells ⟨Tb.zero.list⟩ 29)).setRow w5.heap.size ⟨T.list⟩ = w6 at *
          go_wp2_with (first
            | (refine load_tb (T := T) rfl rfl rfl HT.out sT ?_)
            | (refine load_tb (T := T) rfl rfl rfl HU.out sT ?_)
            | (refine wpList_value rfl _ (exec_bin .eql 29 29 (.tmp 72) (.tmp 73) rfl rfl rfl (eql_tb sT _) (run_eqGuard_agg _ _ _ _ _ _ _ (by kernel_rfl))) ?_))
          go_ret
          exact ⟨rfl, HW.out⟩
      · have hf' : f < 0 ∨ 63 < f := by omega
        clear hf
        rcases hf' with hf | hf
        · go_wp2_with fail
          refine (alive_any _).mono ?_
          rintro e w4 ⟨rfl, l4⟩
          go_wp2_with fail
          go_ret
          exact ⟨rfl, below_next HW.out l4⟩
        · go_wp2_with fail
          refine (alive_any _).mono ?_
          rintro e w4 ⟨rfl, l4⟩
          go_wp2_with fail
          go_ret
          exact ⟨rfl, below_next HW.out l4⟩
end Go.Proofs.Ytikeiocgnjdhbaa
