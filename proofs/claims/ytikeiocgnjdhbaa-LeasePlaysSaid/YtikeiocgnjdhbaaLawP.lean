/- LeasePlays: the walk (gen_lawp.py writes it). -/
import Derived.Test.YtikeiocgnjdhbaaRa
import Derived.Test.YtikeiocgnjdhbaaRn
import Derived.Test.YtikeiocgnjdhbaaArg
namespace Go.Proofs.Ytikeiocgnjdhbaa
open Go.RowKit Go.Sort
set_option linter.unusedVariables false
set_option linter.unusedSimpArgs false
set_option maxRecDepth 100000

set_option maxHeartbeats 4000000 in
theorem plays_no (a : Int) (hn : a < 4 ∨ 12 < a) (ao : Option Addr) (n cap : Nat) (hm : n ≤ 140737488355328) (w : World) :
    Calls Try.prog 3 #[.int .i64 a, .slice ao n cap] w (LawOk w) := by
  have hz := zero_run
  have NW := Lib.hid (fun w => new_no a hn w)
  have NR := Lib.hid (fun w => rnew_no a hn w)
  have sT : (Tb.zero).Sz := Tb.zero_sz
  clear hn
  obtain ⟨T0, hT0⟩ : ∃ T, T = Tb.zero := ⟨_, rfl⟩
  replace NW : Hid (∀ w, Calls Try.prog 10 #[.int .i64 a] w fun e w' => e = .returned (.tuple #[.agg ⟨T0.list⟩, .int .i64 1]) ∧ Below w.heap.size w w') := Lib.hid (by rw [hT0]; exact NW.out)
  replace NR : Hid (∀ w, Calls Try.prog 11 #[.int .i64 a] w fun e w' => e = .returned (.tuple #[.agg ⟨T0.list⟩, .int .i64 1]) ∧ Below w.heap.size w w') := Lib.hid (by rw [hT0]; exact NR.out)
  rw [← hT0] at sT
  clear hT0
  have hni : (n : Int) ≤ 140737488355328 := by omega
  clear hm
  go_enter Try.func3, Try.ntmps3
  go_wp2_with fail
  refine (NW.out _).mono ?_
  rintro e w1 ⟨rfl, l1⟩
  obtain ⟨h2, l2, hlt2⟩ := laid_tb (w := w1) (T := T0) (U := Tb.zero)
  have H1 := Lib.hid (TbR.new w1 Tb.zero)
  have HT := Lib.hid h2
  have HW := Lib.hid (below_next l1 l2)
  have hsz1 := l1.size
  clear h2 l2 l1 NW
  go_upto_region 2 with (first
    | (refine store_tb (U := T0) rfl rfl rfl rfl H1.out Tb.zero_sz sT ?_))
  clear H1
  generalize (w1.alloc (.cells ⟨Tb.zero.list⟩ 29)).setRow w1.heap.size ⟨T0.list⟩ = w2 at *
  generalize w1.heap.size = bT at *
  go_wp2_with fail
  refine (NR.out _).mono ?_
  rintro e w3 ⟨rfl, l3⟩
  obtain ⟨h2, l2, hlt3⟩ := laid_tb (w := w3) (T := T0) (U := Tb.zero)
  have H1 := Lib.hid (TbR.new w3 Tb.zero)
  have HB := Lib.hid h2
  replace HT := Lib.hid ((HT.out.keep l3).keep l2)
  replace HW := Lib.hid (below_next (below_next HW.out l3) l2)
  have hbb : bT < w3.heap.size := Nat.lt_of_lt_of_le hlt2 l3.size
  have hsz3 := l3.size
  clear h2 l2 l3 NR
  go_upto_region 3 with (first
    | (refine store_tb (U := T0) rfl rfl rfl rfl H1.out Tb.zero_sz sT ?_))
  clear H1
  generalize (w3.alloc (.cells ⟨Tb.zero.list⟩ 29)).setRow w3.heap.size ⟨T0.list⟩ = w4 at *
  generalize w3.heap.size = bB at *
  go_wp2_with fail
  refine (alive_any _).mono ?_
  rintro e w5 ⟨rfl, l5⟩
  replace HT := Lib.hid (HT.out.keep l5)
  replace HB := Lib.hid (HB.out.keep l5)
  replace HW := Lib.hid (below_next HW.out l5)
  have hbT5 : bT < w5.heap.size := HT.out.lt
  have hbB5 : bB < w5.heap.size := HB.out.lt
  have hwT : w.heap.size ≤ bT := hsz1
  have hwB : w.heap.size ≤ bB := by omega
  clear l5 hlt2 hlt3 hsz1 hsz3
  go_wp2_with (first
    | (refine load_tbw (T := T0) rfl rfl HT.out sT (by rfl) ?_)
    | (refine load_tbw (T := T0) rfl rfl HB.out sT (by rfl) ?_)
    | (refine wpList_wanted (by rfl) _ (exec_bin .neq 29 29 (.tmp 33) (.tmp 34) rfl rfl rfl (neq_tb sT _) (run_eqGuard_agg _ _ _ _ _ _ _ (by kernel_rfl))) ?_))
  go_loopw [9, 10, 11, 12, 13, 14] (fun i _ _ _ _ _ wr => i = .int .i64 0 ∧ w5 = wr) (fun i _ _ _ _ _ _ => 1)
  case atStart => exact ⟨rfl, rfl⟩
  case round =>
    obtain ⟨rfl, rfl⟩ := hrel
    by_cases h0 : 0 < n
    · have e1 : decide ((0 : Int) < (n : Int)) = true := by simp; omega
      have h0' : (0 : Int) < (n : Int) := by omega
      go_wp2_with fail
      go_ret
      exact ⟨rfl, HW.out⟩
    · obtain rfl : n = 0 := by omega
      go_wp2_with fail
      go_ret
      exact ⟨rfl, HW.out⟩
set_option maxHeartbeats 12000000 in
theorem plays_yes (m0 : Nat) (n0 : 4 ≤ m0) (n1 : m0 ≤ 12) (ao : Option Addr) (n cap : Nat) (hm : n ≤ 140737488355328) (w : World) (hr : DcsRd w ao n) :
    Calls Try.prog 3 #[.int .i64 (m0 : Int), .slice ao n cap] w (LawOk w) := by
  have hz := zero_run
  have NW := Lib.hid (fun w => new_yes m0 n0 n1 w)
  have NR := Lib.hid (fun w => rnew_yes m0 n0 n1 w)
  have sT : (newT m0).Sz := newT_sz m0
  have HOK := Lib.hid (newT_ok m0 n0 n1)
  have HR := Lib.hid hr
  generalize newT m0 = T0 at *
  have hni : (n : Int) ≤ 140737488355328 := by omega
  clear hm hr n0 n1
  go_enter Try.func3, Try.ntmps3
  go_wp2_with fail
  refine (NW.out _).mono ?_
  rintro e w1 ⟨rfl, l1⟩
  obtain ⟨h2, l2, hlt2⟩ := laid_tb (w := w1) (T := T0) (U := Tb.zero)
  have H1 := Lib.hid (TbR.new w1 Tb.zero)
  have HT := Lib.hid h2
  have HW := Lib.hid (below_next l1 l2)
  have hsz1 := l1.size
  clear h2 l2 l1 NW
  go_upto_region 2 with (first
    | (refine store_tb (U := T0) rfl rfl rfl rfl H1.out Tb.zero_sz sT ?_))
  clear H1
  generalize (w1.alloc (.cells ⟨Tb.zero.list⟩ 29)).setRow w1.heap.size ⟨T0.list⟩ = w2 at *
  generalize w1.heap.size = bT at *
  go_wp2_with fail
  refine (NR.out _).mono ?_
  rintro e w3 ⟨rfl, l3⟩
  obtain ⟨h2, l2, hlt3⟩ := laid_tb (w := w3) (T := T0) (U := Tb.zero)
  have H1 := Lib.hid (TbR.new w3 Tb.zero)
  have HB := Lib.hid h2
  replace HT := Lib.hid ((HT.out.keep l3).keep l2)
  replace HW := Lib.hid (below_next (below_next HW.out l3) l2)
  have hbb : bT < w3.heap.size := Nat.lt_of_lt_of_le hlt2 l3.size
  have hsz3 := l3.size
  clear h2 l2 l3 NR
  go_upto_region 3 with (first
    | (refine store_tb (U := T0) rfl rfl rfl rfl H1.out Tb.zero_sz sT ?_))
  clear H1
  generalize (w3.alloc (.cells ⟨Tb.zero.list⟩ 29)).setRow w3.heap.size ⟨T0.list⟩ = w4 at *
  generalize w3.heap.size = bB at *
  go_wp2_with fail
  refine (alive_any _).mono ?_
  rintro e w5 ⟨rfl, l5⟩
  replace HT := Lib.hid (HT.out.keep l5)
  replace HB := Lib.hid (HB.out.keep l5)
  replace HW := Lib.hid (below_next HW.out l5)
  have hbT5 : bT < w5.heap.size := HT.out.lt
  have hbB5 : bB < w5.heap.size := HB.out.lt
  have hwT : w.heap.size ≤ bT := hsz1
  have hwB : w.heap.size ≤ bB := by omega
  clear l5 hlt2 hlt3 hsz1 hsz3
  go_wp2_with (first
    | (refine load_tbw (T := T0) rfl rfl HT.out sT (by rfl) ?_)
    | (refine load_tbw (T := T0) rfl rfl HB.out sT (by rfl) ?_)
    | (refine wpList_wanted (by rfl) _ (exec_bin .neq 29 29 (.tmp 33) (.tmp 34) rfl rfl rfl (neq_tb sT _) (run_eqGuard_agg _ _ _ _ _ _ _ (by kernel_rfl))) ?_))
  go_loopw [9, 10, 11, 12, 13, 14] (fun i _ _ _ _ _ wr => ∃ (k : Nat) (T : Tb), k ≤ 300 ∧ i = .int .i64 (k : Int) ∧ T.Ok ∧ TbR wr bT T ∧ TbR wr bB T ∧ Keep [bT, bB] w5 wr) (fun i _ _ _ _ _ _ => 300 - (intOf i).toNat)
  case atStart => exact ⟨0, _, Nat.zero_le _, rfl, HOK.out, HT.out, HB.out, Keep.refl _ _⟩
  case round =>
    obtain ⟨k, T, hk, rfl, hok, hT, hB, hK⟩ := hrel
    clear HT HB HOK sT
    have HT := Lib.hid hT
    have HB := Lib.hid hB
    have HK := Lib.hid hK
    have HOK := Lib.hid hok
    have HWr := Lib.hid (HW.out.trans (hK.below (B := w.heap.size) (by omega) (by simp; omega)))
    have hbTr : bT < wr.heap.size := hT.lt
    have hbBr : bB < wr.heap.size := hB.lt
    have sT := hok.sz
    clear hT hB hK hok
    obtain ⟨cb, hcb⟩ : ∃ cb : Bool, cb = (decide ((k : Int) < (n : Int)) && decide ((k : Int) < 300)) := ⟨_, rfl⟩
    have HCB := Lib.hid hcb
    clear hcb
    go_upto_region 6 with (fail)
    go_cut [48] from 37 to 47 (fun s wx => s = .bool cb ∧ wr = wx)
    case first =>
      as_aux_lemma =>
        have h := HCB.out
        by_cases h1 : k < n
        · have e1 : decide ((k : Int) < (n : Int)) = true := by simpa using h1
          by_cases h2 : k < 300
          · have e2 : decide ((k : Int) < 300) = true := by simp; omega
            rw [e1, e2] at h
            obtain rfl : cb = true := by simpa using h
            clear h HCB
            go_wp2_with fail
            go_meet
            case rel => exact ⟨rfl, rfl⟩
          · have e2 : decide ((k : Int) < 300) = false := by simp; omega
            rw [e1, e2] at h
            obtain rfl : cb = false := by simpa using h
            clear h HCB
            go_wp2_with fail
            go_meet
            case rel => exact ⟨rfl, rfl⟩
        · have e1 : decide ((k : Int) < (n : Int)) = false := by simp; omega
          rw [e1] at h
          obtain rfl : cb = false := by simpa using h
          clear h HCB
          go_wp2_with fail
          go_meet
          case rel => exact ⟨rfl, rfl⟩
    case rest =>
      obtain ⟨rfl, rfl⟩ := hcut
      cases cb
      · clear HCB
        go_wp2_with fail
        go_ret
        exact ⟨rfl, HWr.out⟩
      · skip
        have hcb := HCB.out
        obtain ⟨hkn, hk1⟩ : k < n ∧ k < 300 := by simp at hcb; omega
        clear hcb HCB
        obtain ⟨g, o, D, rfl, hg0, w0, w1', hrg⟩ := HR.out k hkn
        have hgT : g ≠ bT := by omega
        have hgB : g ≠ bB := by omega
        have hg := Nat.lt_of_lt_of_le hg0 HWr.out.size
        have hok := HOK.out
        have AP := Lib.hid (apply_any T sT D (by have := hok.v0; omega) hok.r w0 w1')
        have AP2 := Lib.hid (rapply_any hok D w0 w1')
        have hokV := Lib.hid (apT_ok hok D w0 w1')
        have sV := apT_sz sT D
        have OA := Lib.hid (fun w => owned_any (apT T D) sV D.node w)
        have OB := Lib.hid (fun w => rowned_any hokV.out D.node w)
        have hl64 := ofL_length (ownL (apT T D) D.node)
        generalize ofL (ownL (apT T D) D.node) = LL at *
        unfold apR at AP AP2
        generalize apT T D = V at *
        generalize refuse T D = y at *
        have HRG := Lib.hid (fun j v hv => (HWr.out.cell (p := ⟨g, o + k * 7 + j, none⟩) hg0).trans (hrg j v hv))
        clear hrg w0 w1' hok hg0
        have hkc : (k : Int) < (n : Int) := by omega
        have yy : (y != y) = false := by simp
        go_upto_region 8 with (fail)
        go_cut [10, 11] from 51 to 59 (fun sT sE wx => ∃ bV, sT = .pointer (some ⟨bV, 0, none⟩) ∧ sE = .int .i64 y ∧ wr.heap.size ≤ bV ∧ TbR wx bV V ∧ Below wr.heap.size wr wx)
        case first =>
          as_aux_lemma =>
            refine wp_region_held_drew (S := fun w' => Below wr.heap.size wr w') (by kernel_rfl) ((Below.refl _ _).drew) (fun s0 => ?_)
            generalize wr.drew = wd at *
            refine wpAnyH_take (i := 0) (v := .agg ⟨T.list⟩) rfl (by kernel_rfl) (by kernel_rfl) (by kernel_rfl) (fun _ _ _ h => h) (Or.inl ⟨by rfl, fun w' hw' => by exact exec_load 29 (.tmp 5) rfl rfl ((HT.out.keep hw').load sT)⟩) s0 ?_
            try simp only [Act.put, List.getElem_toArray, List.getElem_cons_succ, List.getElem_cons_zero, List.setIfInBounds_toArray, List.set_cons_zero, List.set_cons_succ, Nat.zero_add, List.nil_append]
            refine wpAnyH_take (i := 1) (v := .slice (some ⟨g, o, none⟩) n cap) rfl (by kernel_rfl) (by kernel_rfl) (by kernel_rfl) (fun _ _ _ h => h) (Or.inl ⟨by rfl, fun w' hw' => by go_simp⟩) s0 ?_
            try simp only [Act.put, List.getElem_toArray, List.getElem_cons_succ, List.getElem_cons_zero, List.setIfInBounds_toArray, List.set_cons_zero, List.set_cons_succ, Nat.zero_add, List.nil_append]
            refine wpAnyH_take (i := 2) (v := .int .i64 (k : Int)) rfl (by kernel_rfl) (by kernel_rfl) (by kernel_rfl) (fun _ _ _ h => h) (Or.inl ⟨by rfl, fun w' hw' => by go_simp⟩) s0 ?_
            try simp only [Act.put, List.getElem_toArray, List.getElem_cons_succ, List.getElem_cons_zero, List.setIfInBounds_toArray, List.set_cons_zero, List.set_cons_succ, Nat.zero_add, List.nil_append]
            refine wpAnyH_take (i := 3) (v := .pointer (some ⟨g, o + k * 7, none⟩)) rfl (by kernel_rfl) (by kernel_rfl) (by kernel_rfl) (fun _ _ _ h => h) (Or.inl ⟨by rfl, fun w' hw' => by go_simp⟩) s0 ?_
            try simp only [Act.put, List.getElem_toArray, List.getElem_cons_succ, List.getElem_cons_zero, List.setIfInBounds_toArray, List.set_cons_zero, List.set_cons_succ, Nat.zero_add, List.nil_append]
            refine wpAnyH_take (i := 4) (v := .agg #[.int .i64 D.kind, .int .i64 D.node, .int .i64 D.by_, .int .i64 D.f, .int .i64 D.z, .int .u32 D.cnt, .int .u32 D.seen]) rfl (by kernel_rfl) (by kernel_rfl) (by kernel_rfl) (fun _ _ _ h => h) (Or.inl ⟨by rfl, fun w' hw' => by exact exec_load 39 (.tmp 55) rfl rfl (run_loadAt_mid w' g (o + k * 7) 39 D.cells.toList _ (fun j v hv => (hw'.cell (p := ⟨g, o + k * 7 + j, none⟩) hg).trans (HRG.out j v hv)) Try.underlying39 rfl (by kernel_rfl))⟩) s0 ?_
            try simp only [Act.put, List.getElem_toArray, List.getElem_cons_succ, List.getElem_cons_zero, List.setIfInBounds_toArray, List.set_cons_zero, List.set_cons_succ, Nat.zero_add, List.nil_append]
            refine wpAnyH_ready (rs := [5, 9]) (by kernel_rfl) (by simp) ?_
            refine AllReadyH.cons rfl (fun K hK => ?_) (AllReadyH.cons rfl (fun K hK => ?_) AllReadyH.nil)
            · skip
              rw [if_pos (by rfl)]
              go_simp
              refine (AP.out wd).mono ?_; rintro e w2 ⟨rfl, b2⟩
              have s1 := below_next s0 b2
              
              clear b2
              go_simp
              refine hK.out _ _ s1 (fun _ => ?_)
              clear hK K
              try simp only [Act.put, List.getElem_toArray, List.getElem_cons_succ, List.getElem_cons_zero, List.setIfInBounds_toArray, List.set_cons_zero, List.set_cons_succ, Nat.zero_add, List.nil_append]
              refine wpAnyH_take (i := 6) (v := .tuple #[.agg ⟨(V).list⟩, .int .i64 y]) rfl (by kernel_rfl) (by kernel_rfl) (by kernel_rfl) (fun _ _ _ h => h) (Or.inl ⟨by rfl, fun w' hw' => by go_simp⟩) s1 ?_
              try simp only [Act.put, List.getElem_toArray, List.getElem_cons_succ, List.getElem_cons_zero, List.setIfInBounds_toArray, List.set_cons_zero, List.set_cons_succ, Nat.zero_add, List.nil_append]
              refine wpAnyH_take (i := 7) (v := .agg ⟨(V).list⟩) rfl (by kernel_rfl) (by kernel_rfl) (by kernel_rfl) (fun _ _ _ h => h) (Or.inl ⟨by rfl, fun w' hw' => by go_simp⟩) s1 ?_
              try simp only [Act.put, List.getElem_toArray, List.getElem_cons_succ, List.getElem_cons_zero, List.setIfInBounds_toArray, List.set_cons_zero, List.set_cons_succ, Nat.zero_add, List.nil_append]
              refine wpAnyH_take (i := 8) (v := .int .i64 y) rfl (by kernel_rfl) (by kernel_rfl) (by kernel_rfl) (fun _ _ _ h => h) (Or.inl ⟨by rfl, fun w' hw' => by go_simp⟩) s1 ?_
              try simp only [Act.put, List.getElem_toArray, List.getElem_cons_succ, List.getElem_cons_zero, List.setIfInBounds_toArray, List.set_cons_zero, List.set_cons_succ, Nat.zero_add, List.nil_append]
              refine wpAnyH_ready (rs := [9]) (by kernel_rfl) (by simp) ?_
              refine AllReadyH.cons rfl (fun K hK => ?_) AllReadyH.nil
              rw [if_pos (by rfl)]
              go_simp
              have r3 := TbR.new w2 Tb.zero
              have s2 := below_alloc s1 (.cells ⟨Tb.zero.list⟩ 29)
              have hbs := s1.size
              generalize w2.alloc (.cells ⟨Tb.zero.list⟩ 29) = w3z at *
              obtain ⟨bx, hbx⟩ : ∃ q, q = w2.heap.size := ⟨_, rfl⟩
              rw [← hbx] at r3 hbs ⊢
              clear hbx
              refine hK.out _ _ s2 (fun _ => ?_)
              clear hK K
              try simp only [Act.put, List.getElem_toArray, List.getElem_cons_succ, List.getElem_cons_zero, List.setIfInBounds_toArray, List.set_cons_zero, List.set_cons_succ, Nat.zero_add, List.nil_append]
              refine wpAnyH_ready (rs := [10]) (by kernel_rfl) (by simp) ?_
              refine AllReadyH.cons rfl (fun K hK => ?_) AllReadyH.nil
              rw [if_pos (by rfl)]
              refine wp_store_row 29 (.tmp 10) (.tmp 58) rfl bx ⟨(V).list⟩ rfl rfl 29 _ r3 (by rw [List.size_toArray, sV.len, tb_info]) (by simp [Tb.zero_sz.len, sV.len]) (tb_one _) ?_
              have s9 : Below wr.heap.size wr (w3z.setRow bx ⟨(V).list⟩) := below_setRow s2 bx _ hbs
              have HXR := Lib.hid (r3.setRow (V))
              generalize w3z.setRow bx ⟨(V).list⟩ = wz at *
              refine hK.out _ _ s9 (fun _ => ?_)
              clear hK K
              try simp only [Act.put, List.getElem_toArray, List.getElem_cons_succ, List.getElem_cons_zero, List.setIfInBounds_toArray, List.set_cons_zero, List.set_cons_succ, Nat.zero_add, List.nil_append]
              refine wpAnyH_take (i := 11) (v := .int .i64 y) rfl (by kernel_rfl) (by kernel_rfl) (by kernel_rfl) (fun _ _ _ h => h) (Or.inl ⟨by rfl, fun w' hw' => by go_simp⟩) s9 ?_
              try simp only [Act.put, List.getElem_toArray, List.getElem_cons_succ, List.getElem_cons_zero, List.setIfInBounds_toArray, List.set_cons_zero, List.set_cons_succ, Nat.zero_add, List.nil_append]
              refine wpAnyH_done (by kernel_rfl) ?_ _
              have HZB := Lib.hid s9
              have HBS := Lib.hid hbs
              clear r3 hbs s9 s0 s1 s2
              go_wp2_with fail
              go_meet
              case rel => exact ⟨_, rfl, rfl, HBS.out, HXR.out, HZB.out⟩
            · skip
              rw [if_pos (by rfl)]
              go_simp
              have r3 := TbR.new wd Tb.zero
              have s1 := below_alloc s0 (.cells ⟨Tb.zero.list⟩ 29)
              have hbs := s0.size
              generalize wd.alloc (.cells ⟨Tb.zero.list⟩ 29) = w2 at *
              obtain ⟨bx, hbx⟩ : ∃ q, q = wd.heap.size := ⟨_, rfl⟩
              rw [← hbx] at r3 hbs ⊢
              clear hbx
              refine hK.out _ _ s1 (fun _ => ?_)
              clear hK K
              try simp only [Act.put, List.getElem_toArray, List.getElem_cons_succ, List.getElem_cons_zero, List.setIfInBounds_toArray, List.set_cons_zero, List.set_cons_succ, Nat.zero_add, List.nil_append]
              refine wpAnyH_ready (rs := [5]) (by kernel_rfl) (by simp) ?_
              refine AllReadyH.cons rfl (fun K hK => ?_) AllReadyH.nil
              rw [if_pos (by rfl)]
              go_simp
              refine (AP.out w2).mono ?_; rintro e w3z ⟨rfl, b2⟩
              have s2 := below_next s1 b2
              have r3 := r3.keep b2
              clear b2
              go_simp
              refine hK.out _ _ s2 (fun _ => ?_)
              clear hK K
              try simp only [Act.put, List.getElem_toArray, List.getElem_cons_succ, List.getElem_cons_zero, List.setIfInBounds_toArray, List.set_cons_zero, List.set_cons_succ, Nat.zero_add, List.nil_append]
              refine wpAnyH_take (i := 6) (v := .tuple #[.agg ⟨(V).list⟩, .int .i64 y]) rfl (by kernel_rfl) (by kernel_rfl) (by kernel_rfl) (fun _ _ _ h => h) (Or.inl ⟨by rfl, fun w' hw' => by go_simp⟩) s2 ?_
              try simp only [Act.put, List.getElem_toArray, List.getElem_cons_succ, List.getElem_cons_zero, List.setIfInBounds_toArray, List.set_cons_zero, List.set_cons_succ, Nat.zero_add, List.nil_append]
              refine wpAnyH_take (i := 7) (v := .agg ⟨(V).list⟩) rfl (by kernel_rfl) (by kernel_rfl) (by kernel_rfl) (fun _ _ _ h => h) (Or.inl ⟨by rfl, fun w' hw' => by go_simp⟩) s2 ?_
              try simp only [Act.put, List.getElem_toArray, List.getElem_cons_succ, List.getElem_cons_zero, List.setIfInBounds_toArray, List.set_cons_zero, List.set_cons_succ, Nat.zero_add, List.nil_append]
              refine wpAnyH_take (i := 8) (v := .int .i64 y) rfl (by kernel_rfl) (by kernel_rfl) (by kernel_rfl) (fun _ _ _ h => h) (Or.inl ⟨by rfl, fun w' hw' => by go_simp⟩) s2 ?_
              try simp only [Act.put, List.getElem_toArray, List.getElem_cons_succ, List.getElem_cons_zero, List.setIfInBounds_toArray, List.set_cons_zero, List.set_cons_succ, Nat.zero_add, List.nil_append]
              refine wpAnyH_ready (rs := [10]) (by kernel_rfl) (by simp) ?_
              refine AllReadyH.cons rfl (fun K hK => ?_) AllReadyH.nil
              rw [if_pos (by rfl)]
              refine wp_store_row 29 (.tmp 10) (.tmp 58) rfl bx ⟨(V).list⟩ rfl rfl 29 _ r3 (by rw [List.size_toArray, sV.len, tb_info]) (by simp [Tb.zero_sz.len, sV.len]) (tb_one _) ?_
              have s9 : Below wr.heap.size wr (w3z.setRow bx ⟨(V).list⟩) := below_setRow s2 bx _ hbs
              have HXR := Lib.hid (r3.setRow (V))
              generalize w3z.setRow bx ⟨(V).list⟩ = wz at *
              refine hK.out _ _ s9 (fun _ => ?_)
              clear hK K
              try simp only [Act.put, List.getElem_toArray, List.getElem_cons_succ, List.getElem_cons_zero, List.setIfInBounds_toArray, List.set_cons_zero, List.set_cons_succ, Nat.zero_add, List.nil_append]
              refine wpAnyH_take (i := 11) (v := .int .i64 y) rfl (by kernel_rfl) (by kernel_rfl) (by kernel_rfl) (fun _ _ _ h => h) (Or.inl ⟨by rfl, fun w' hw' => by go_simp⟩) s9 ?_
              try simp only [Act.put, List.getElem_toArray, List.getElem_cons_succ, List.getElem_cons_zero, List.setIfInBounds_toArray, List.set_cons_zero, List.set_cons_succ, Nat.zero_add, List.nil_append]
              refine wpAnyH_done (by kernel_rfl) ?_ _
              have HZB := Lib.hid s9
              have HBS := Lib.hid hbs
              clear r3 hbs s9 s0 s1 s2
              go_wp2_with fail
              go_meet
              case rel => exact ⟨_, rfl, rfl, HBS.out, HXR.out, HZB.out⟩
        case rest =>
          obtain ⟨bU, rfl, rfl, hbU, hU, hl⟩ := hcut
          obtain ⟨wm, hwm⟩ : ∃ x, x = wc := ⟨_, rfl⟩
          rw [← hwm] at hU hl ⊢
          clear hwm
          replace HT := Lib.hid (HT.out.keep hl)
          replace HB := Lib.hid (HB.out.keep hl)
          replace HK := Lib.hid (HK.out.trans (Keep.of_below hl [bT, bB]))
          have hg2 := Nat.lt_of_lt_of_le hg hl.size
          replace HRG := Lib.hid (fun j v hv => (hl.cell (p := ⟨g, o + k * 7 + j, none⟩) hg).trans (HRG.out j v hv))
          have HU := Lib.hid hU
          have hbT2 : bT < bU := Nat.lt_of_lt_of_le hbTr hbU
          have hbB2 : bB < bU := Nat.lt_of_lt_of_le hbBr hbU
          have hbTd : bT < wm.heap.size := HT.out.lt
          have hbBd : bB < wm.heap.size := HB.out.lt
          clear hl hU hg AP hbU hbTr hbBr HWr
          go_upto_region 9 with (fail)
          go_cut [12, 13] from 60 to 68 (fun sT sE wx => ∃ bV, sT = .pointer (some ⟨bV, 0, none⟩) ∧ sE = .int .i64 y ∧ wm.heap.size ≤ bV ∧ TbR wx bV V ∧ Below wm.heap.size wm wx)
          case first =>
            as_aux_lemma =>
              refine wp_region_held_drew (S := fun w' => Below wm.heap.size wm w') (by kernel_rfl) ((Below.refl _ _).drew) (fun s0 => ?_)
              generalize wm.drew = wd at *
              refine wpAnyH_take (i := 0) (v := .agg ⟨T.list⟩) rfl (by kernel_rfl) (by kernel_rfl) (by kernel_rfl) (fun _ _ _ h => h) (Or.inl ⟨by rfl, fun w' hw' => by exact exec_load 29 (.tmp 7) rfl rfl ((HB.out.keep hw').load sT)⟩) s0 ?_
              try simp only [Act.put, List.getElem_toArray, List.getElem_cons_succ, List.getElem_cons_zero, List.setIfInBounds_toArray, List.set_cons_zero, List.set_cons_succ, Nat.zero_add, List.nil_append]
              refine wpAnyH_take (i := 1) (v := .slice (some ⟨g, o, none⟩) n cap) rfl (by kernel_rfl) (by kernel_rfl) (by kernel_rfl) (fun _ _ _ h => h) (Or.inl ⟨by rfl, fun w' hw' => by go_simp⟩) s0 ?_
              try simp only [Act.put, List.getElem_toArray, List.getElem_cons_succ, List.getElem_cons_zero, List.setIfInBounds_toArray, List.set_cons_zero, List.set_cons_succ, Nat.zero_add, List.nil_append]
              refine wpAnyH_take (i := 2) (v := .int .i64 (k : Int)) rfl (by kernel_rfl) (by kernel_rfl) (by kernel_rfl) (fun _ _ _ h => h) (Or.inl ⟨by rfl, fun w' hw' => by go_simp⟩) s0 ?_
              try simp only [Act.put, List.getElem_toArray, List.getElem_cons_succ, List.getElem_cons_zero, List.setIfInBounds_toArray, List.set_cons_zero, List.set_cons_succ, Nat.zero_add, List.nil_append]
              refine wpAnyH_take (i := 3) (v := .pointer (some ⟨g, o + k * 7, none⟩)) rfl (by kernel_rfl) (by kernel_rfl) (by kernel_rfl) (fun _ _ _ h => h) (Or.inl ⟨by rfl, fun w' hw' => by go_simp⟩) s0 ?_
              try simp only [Act.put, List.getElem_toArray, List.getElem_cons_succ, List.getElem_cons_zero, List.setIfInBounds_toArray, List.set_cons_zero, List.set_cons_succ, Nat.zero_add, List.nil_append]
              refine wpAnyH_take (i := 4) (v := .agg #[.int .i64 D.kind, .int .i64 D.node, .int .i64 D.by_, .int .i64 D.f, .int .i64 D.z, .int .u32 D.cnt, .int .u32 D.seen]) rfl (by kernel_rfl) (by kernel_rfl) (by kernel_rfl) (fun _ _ _ h => h) (Or.inl ⟨by rfl, fun w' hw' => by exact exec_load 39 (.tmp 64) rfl rfl (run_loadAt_mid w' g (o + k * 7) 39 D.cells.toList _ (fun j v hv => (hw'.cell (p := ⟨g, o + k * 7 + j, none⟩) hg2).trans (HRG.out j v hv)) Try.underlying39 rfl (by kernel_rfl))⟩) s0 ?_
              try simp only [Act.put, List.getElem_toArray, List.getElem_cons_succ, List.getElem_cons_zero, List.setIfInBounds_toArray, List.set_cons_zero, List.set_cons_succ, Nat.zero_add, List.nil_append]
              refine wpAnyH_ready (rs := [5, 9]) (by kernel_rfl) (by simp) ?_
              refine AllReadyH.cons rfl (fun K hK => ?_) (AllReadyH.cons rfl (fun K hK => ?_) AllReadyH.nil)
              · skip
                rw [if_pos (by rfl)]
                go_simp
                refine (AP2.out wd).mono ?_; rintro e w2 ⟨rfl, b2⟩
                have s1 := below_next s0 b2
                
                clear b2
                go_simp
                refine hK.out _ _ s1 (fun _ => ?_)
                clear hK K
                try simp only [Act.put, List.getElem_toArray, List.getElem_cons_succ, List.getElem_cons_zero, List.setIfInBounds_toArray, List.set_cons_zero, List.set_cons_succ, Nat.zero_add, List.nil_append]
                refine wpAnyH_take (i := 6) (v := .tuple #[.agg ⟨(V).list⟩, .int .i64 y]) rfl (by kernel_rfl) (by kernel_rfl) (by kernel_rfl) (fun _ _ _ h => h) (Or.inl ⟨by rfl, fun w' hw' => by go_simp⟩) s1 ?_
                try simp only [Act.put, List.getElem_toArray, List.getElem_cons_succ, List.getElem_cons_zero, List.setIfInBounds_toArray, List.set_cons_zero, List.set_cons_succ, Nat.zero_add, List.nil_append]
                refine wpAnyH_take (i := 7) (v := .agg ⟨(V).list⟩) rfl (by kernel_rfl) (by kernel_rfl) (by kernel_rfl) (fun _ _ _ h => h) (Or.inl ⟨by rfl, fun w' hw' => by go_simp⟩) s1 ?_
                try simp only [Act.put, List.getElem_toArray, List.getElem_cons_succ, List.getElem_cons_zero, List.setIfInBounds_toArray, List.set_cons_zero, List.set_cons_succ, Nat.zero_add, List.nil_append]
                refine wpAnyH_take (i := 8) (v := .int .i64 y) rfl (by kernel_rfl) (by kernel_rfl) (by kernel_rfl) (fun _ _ _ h => h) (Or.inl ⟨by rfl, fun w' hw' => by go_simp⟩) s1 ?_
                try simp only [Act.put, List.getElem_toArray, List.getElem_cons_succ, List.getElem_cons_zero, List.setIfInBounds_toArray, List.set_cons_zero, List.set_cons_succ, Nat.zero_add, List.nil_append]
                refine wpAnyH_ready (rs := [9]) (by kernel_rfl) (by simp) ?_
                refine AllReadyH.cons rfl (fun K hK => ?_) AllReadyH.nil
                rw [if_pos (by rfl)]
                go_simp
                have r3 := TbR.new w2 Tb.zero
                have s2 := below_alloc s1 (.cells ⟨Tb.zero.list⟩ 29)
                have hbs := s1.size
                generalize w2.alloc (.cells ⟨Tb.zero.list⟩ 29) = w3z at *
                obtain ⟨bx, hbx⟩ : ∃ q, q = w2.heap.size := ⟨_, rfl⟩
                rw [← hbx] at r3 hbs ⊢
                clear hbx
                refine hK.out _ _ s2 (fun _ => ?_)
                clear hK K
                try simp only [Act.put, List.getElem_toArray, List.getElem_cons_succ, List.getElem_cons_zero, List.setIfInBounds_toArray, List.set_cons_zero, List.set_cons_succ, Nat.zero_add, List.nil_append]
                refine wpAnyH_ready (rs := [10]) (by kernel_rfl) (by simp) ?_
                refine AllReadyH.cons rfl (fun K hK => ?_) AllReadyH.nil
                rw [if_pos (by rfl)]
                refine wp_store_row 29 (.tmp 12) (.tmp 67) rfl bx ⟨(V).list⟩ rfl rfl 29 _ r3 (by rw [List.size_toArray, sV.len, tb_info]) (by simp [Tb.zero_sz.len, sV.len]) (tb_one _) ?_
                have s9 : Below wm.heap.size wm (w3z.setRow bx ⟨(V).list⟩) := below_setRow s2 bx _ hbs
                have HXR := Lib.hid (r3.setRow (V))
                generalize w3z.setRow bx ⟨(V).list⟩ = wz at *
                refine hK.out _ _ s9 (fun _ => ?_)
                clear hK K
                try simp only [Act.put, List.getElem_toArray, List.getElem_cons_succ, List.getElem_cons_zero, List.setIfInBounds_toArray, List.set_cons_zero, List.set_cons_succ, Nat.zero_add, List.nil_append]
                refine wpAnyH_take (i := 11) (v := .int .i64 y) rfl (by kernel_rfl) (by kernel_rfl) (by kernel_rfl) (fun _ _ _ h => h) (Or.inl ⟨by rfl, fun w' hw' => by go_simp⟩) s9 ?_
                try simp only [Act.put, List.getElem_toArray, List.getElem_cons_succ, List.getElem_cons_zero, List.setIfInBounds_toArray, List.set_cons_zero, List.set_cons_succ, Nat.zero_add, List.nil_append]
                refine wpAnyH_done (by kernel_rfl) ?_ _
                have HZB := Lib.hid s9
                have HBS := Lib.hid hbs
                clear r3 hbs s9 s0 s1 s2
                go_wp2_with fail
                go_meet
                case rel => exact ⟨_, rfl, rfl, HBS.out, HXR.out, HZB.out⟩
              · skip
                rw [if_pos (by rfl)]
                go_simp
                have r3 := TbR.new wd Tb.zero
                have s1 := below_alloc s0 (.cells ⟨Tb.zero.list⟩ 29)
                have hbs := s0.size
                generalize wd.alloc (.cells ⟨Tb.zero.list⟩ 29) = w2 at *
                obtain ⟨bx, hbx⟩ : ∃ q, q = wd.heap.size := ⟨_, rfl⟩
                rw [← hbx] at r3 hbs ⊢
                clear hbx
                refine hK.out _ _ s1 (fun _ => ?_)
                clear hK K
                try simp only [Act.put, List.getElem_toArray, List.getElem_cons_succ, List.getElem_cons_zero, List.setIfInBounds_toArray, List.set_cons_zero, List.set_cons_succ, Nat.zero_add, List.nil_append]
                refine wpAnyH_ready (rs := [5]) (by kernel_rfl) (by simp) ?_
                refine AllReadyH.cons rfl (fun K hK => ?_) AllReadyH.nil
                rw [if_pos (by rfl)]
                go_simp
                refine (AP2.out w2).mono ?_; rintro e w3z ⟨rfl, b2⟩
                have s2 := below_next s1 b2
                have r3 := r3.keep b2
                clear b2
                go_simp
                refine hK.out _ _ s2 (fun _ => ?_)
                clear hK K
                try simp only [Act.put, List.getElem_toArray, List.getElem_cons_succ, List.getElem_cons_zero, List.setIfInBounds_toArray, List.set_cons_zero, List.set_cons_succ, Nat.zero_add, List.nil_append]
                refine wpAnyH_take (i := 6) (v := .tuple #[.agg ⟨(V).list⟩, .int .i64 y]) rfl (by kernel_rfl) (by kernel_rfl) (by kernel_rfl) (fun _ _ _ h => h) (Or.inl ⟨by rfl, fun w' hw' => by go_simp⟩) s2 ?_
                try simp only [Act.put, List.getElem_toArray, List.getElem_cons_succ, List.getElem_cons_zero, List.setIfInBounds_toArray, List.set_cons_zero, List.set_cons_succ, Nat.zero_add, List.nil_append]
                refine wpAnyH_take (i := 7) (v := .agg ⟨(V).list⟩) rfl (by kernel_rfl) (by kernel_rfl) (by kernel_rfl) (fun _ _ _ h => h) (Or.inl ⟨by rfl, fun w' hw' => by go_simp⟩) s2 ?_
                try simp only [Act.put, List.getElem_toArray, List.getElem_cons_succ, List.getElem_cons_zero, List.setIfInBounds_toArray, List.set_cons_zero, List.set_cons_succ, Nat.zero_add, List.nil_append]
                refine wpAnyH_take (i := 8) (v := .int .i64 y) rfl (by kernel_rfl) (by kernel_rfl) (by kernel_rfl) (fun _ _ _ h => h) (Or.inl ⟨by rfl, fun w' hw' => by go_simp⟩) s2 ?_
                try simp only [Act.put, List.getElem_toArray, List.getElem_cons_succ, List.getElem_cons_zero, List.setIfInBounds_toArray, List.set_cons_zero, List.set_cons_succ, Nat.zero_add, List.nil_append]
                refine wpAnyH_ready (rs := [10]) (by kernel_rfl) (by simp) ?_
                refine AllReadyH.cons rfl (fun K hK => ?_) AllReadyH.nil
                rw [if_pos (by rfl)]
                refine wp_store_row 29 (.tmp 12) (.tmp 67) rfl bx ⟨(V).list⟩ rfl rfl 29 _ r3 (by rw [List.size_toArray, sV.len, tb_info]) (by simp [Tb.zero_sz.len, sV.len]) (tb_one _) ?_
                have s9 : Below wm.heap.size wm (w3z.setRow bx ⟨(V).list⟩) := below_setRow s2 bx _ hbs
                have HXR := Lib.hid (r3.setRow (V))
                generalize w3z.setRow bx ⟨(V).list⟩ = wz at *
                refine hK.out _ _ s9 (fun _ => ?_)
                clear hK K
                try simp only [Act.put, List.getElem_toArray, List.getElem_cons_succ, List.getElem_cons_zero, List.setIfInBounds_toArray, List.set_cons_zero, List.set_cons_succ, Nat.zero_add, List.nil_append]
                refine wpAnyH_take (i := 11) (v := .int .i64 y) rfl (by kernel_rfl) (by kernel_rfl) (by kernel_rfl) (fun _ _ _ h => h) (Or.inl ⟨by rfl, fun w' hw' => by go_simp⟩) s9 ?_
                try simp only [Act.put, List.getElem_toArray, List.getElem_cons_succ, List.getElem_cons_zero, List.setIfInBounds_toArray, List.set_cons_zero, List.set_cons_succ, Nat.zero_add, List.nil_append]
                refine wpAnyH_done (by kernel_rfl) ?_ _
                have HZB := Lib.hid s9
                have HBS := Lib.hid hbs
                clear r3 hbs s9 s0 s1 s2
                go_wp2_with fail
                go_meet
                case rel => exact ⟨_, rfl, rfl, HBS.out, HXR.out, HZB.out⟩
          case rest =>
            obtain ⟨bX, rfl, rfl, hbX, hX, hl⟩ := hcut
            obtain ⟨we, hwe⟩ : ∃ x, x = wc := ⟨_, rfl⟩
            rw [← hwe] at hX hl ⊢
            clear hwe
            replace HT := Lib.hid (HT.out.keep hl)
            replace HB := Lib.hid (HB.out.keep hl)
            replace HU := Lib.hid (HU.out.keep hl)
            replace HK := Lib.hid (HK.out.trans (Keep.of_below hl [bT, bB]))
            have hg3 := Nat.lt_of_lt_of_le hg2 hl.size
            replace HRG := Lib.hid (fun j v hv => (hl.cell (p := ⟨g, o + k * 7 + j, none⟩) hg2).trans (HRG.out j v hv))
            have HX := Lib.hid hX
            have hbT3 : bT < bX := Nat.lt_of_lt_of_le hbTd hbX
            have hbB3 : bB < bX := Nat.lt_of_lt_of_le hbBd hbX
            clear hl hX hg2 AP2 hbX hbTd hbBd
            have k1 := Keep.setRow we bT ⟨V.list⟩
            have k2 := Keep.setRow (we.setRow bT ⟨V.list⟩) bB ⟨V.list⟩
            have HX0 := Lib.hid (HX.out.kp k1 (by simp; omega))
            have HB0 := Lib.hid (HB.out.kp k1 (by simp; omega))
            have HT1 := Lib.hid ((HT.out.setRow V).kp k2 (by simp; omega))
            have HB1 := Lib.hid (HB0.out.setRow V)
            have k12 := (k1.mono (T := [bT, bB]) (by simp)).trans (k2.mono (T := [bT, bB]) (by simp))
            have HKF := Lib.hid (HK.out.trans k12)
            have HRGF := Lib.hid (fun (j : Nat) v hv => (k12.cell (a := ⟨g, o + k * 7 + j, none⟩) hg3 (by simp; omega)).trans (HRG.out j v hv))
            have hg4 := Nat.lt_of_lt_of_le hg3 k12.size
            have HWf := Lib.hid (HW.out.trans (HKF.out.below (B := w.heap.size) (by omega) (by simp; omega)))
            clear k1 k2 k12
            go_upto_region 14 with (first
              | (refine load_tb (T := V) rfl rfl rfl HU.out sV ?_)
              | (refine load_tb (T := V) rfl rfl rfl HX.out sV ?_)
              | (refine load_tb (T := V) rfl rfl rfl HX0.out sV ?_)
              | (refine wpList_value rfl _ (exec_bin .neq 29 29 (.tmp 69) (.tmp 70) rfl rfl rfl (neq_tb sV _) (run_eqGuard_agg _ _ _ _ _ _ _ (by kernel_rfl))) ?_)
              | (refine store_tb (U := V) rfl rfl rfl rfl HT.out sT sV ?_)
              | (refine store_tb (U := V) rfl rfl rfl rfl HB0.out sT sV ?_))
            clear HX0 HB0 HX HU HRG HT HB HK hg3
            generalize (we.setRow bT ⟨V.list⟩).setRow bB ⟨V.list⟩ = wf at *
            have cN := HRGF.out 1 _ rfl
            simp only [Act.put, List.setIfInBounds_toArray, List.set_cons_zero, List.set_cons_succ]
            go_cut [14] from 79 to 93 (fun s wx => s = .bool true ∧ Below wf.heap.size wf wx)
            case first =>
              as_aux_lemma =>
                refine wp_region_held_drew (S := fun w' => Below wf.heap.size wf w') (by kernel_rfl) ((Below.refl _ _).drew) (fun s0 => ?_)
                generalize wf.drew = wd9 at *
                refine wpAnyH_take (i := 0) (v := .agg ⟨V.list⟩) rfl (by kernel_rfl) (by kernel_rfl) (by kernel_rfl) (fun _ _ _ h => h) (Or.inl ⟨by rfl, fun w' hw' => by exact exec_load 29 (.tmp 5) rfl rfl ((HT1.out.keep hw').load sV)⟩) s0 ?_
                try simp only [Act.put, List.getElem_toArray, List.getElem_cons_succ, List.getElem_cons_zero, List.setIfInBounds_toArray, List.set_cons_zero, List.set_cons_succ, Nat.zero_add, List.nil_append]
                refine wpAnyH_take (i := 1) (v := .slice (some ⟨g, o, none⟩) n cap) rfl (by kernel_rfl) (by kernel_rfl) (by kernel_rfl) (fun _ _ _ h => h) (Or.inl ⟨by rfl, fun w' hw' => by go_simp⟩) s0 ?_
                try simp only [Act.put, List.getElem_toArray, List.getElem_cons_succ, List.getElem_cons_zero, List.setIfInBounds_toArray, List.set_cons_zero, List.set_cons_succ, Nat.zero_add, List.nil_append]
                refine wpAnyH_take (i := 2) (v := .int .i64 (k : Int)) rfl (by kernel_rfl) (by kernel_rfl) (by kernel_rfl) (fun _ _ _ h => h) (Or.inl ⟨by rfl, fun w' hw' => by go_simp⟩) s0 ?_
                try simp only [Act.put, List.getElem_toArray, List.getElem_cons_succ, List.getElem_cons_zero, List.setIfInBounds_toArray, List.set_cons_zero, List.set_cons_succ, Nat.zero_add, List.nil_append]
                refine wpAnyH_take (i := 3) (v := .pointer (some ⟨g, o + k * 7, none⟩)) rfl (by kernel_rfl) (by kernel_rfl) (by kernel_rfl) (fun _ _ _ h => h) (Or.inl ⟨by rfl, fun w' hw' => by go_simp⟩) s0 ?_
                try simp only [Act.put, List.getElem_toArray, List.getElem_cons_succ, List.getElem_cons_zero, List.setIfInBounds_toArray, List.set_cons_zero, List.set_cons_succ, Nat.zero_add, List.nil_append]
                refine wpAnyH_take (i := 4) (v := .pointer (some ⟨g, o + k * 7 + 1, none⟩)) rfl (by kernel_rfl) (by kernel_rfl) (by kernel_rfl) (fun _ _ _ h => h) (Or.inl ⟨by rfl, fun w' hw' => by go_simp⟩) s0 ?_
                try simp only [Act.put, List.getElem_toArray, List.getElem_cons_succ, List.getElem_cons_zero, List.setIfInBounds_toArray, List.set_cons_zero, List.set_cons_succ, Nat.zero_add, List.nil_append]
                refine wpAnyH_take (i := 5) (v := .int .i64 D.node) rfl (by kernel_rfl) (by kernel_rfl) (by kernel_rfl) (fun _ _ _ h => h) (Or.inl ⟨by rfl, fun w' hw' => by have z0 := (hw'.cell (p := ⟨g, o + k * 7 + 1, none⟩) hg4).trans cN; go_simp⟩) s0 ?_
                try simp only [Act.put, List.getElem_toArray, List.getElem_cons_succ, List.getElem_cons_zero, List.setIfInBounds_toArray, List.set_cons_zero, List.set_cons_succ, Nat.zero_add, List.nil_append]
                refine wpAnyH_take (i := 7) (v := .agg ⟨V.list⟩) rfl (by kernel_rfl) (by kernel_rfl) (by kernel_rfl) (fun _ _ _ h => h) (Or.inl ⟨by rfl, fun w' hw' => by exact exec_load 29 (.tmp 7) rfl rfl ((HB1.out.keep hw').load sV)⟩) s0 ?_
                try simp only [Act.put, List.getElem_toArray, List.getElem_cons_succ, List.getElem_cons_zero, List.setIfInBounds_toArray, List.set_cons_zero, List.set_cons_succ, Nat.zero_add, List.nil_append]
                refine wpAnyH_take (i := 8) (v := .slice (some ⟨g, o, none⟩) n cap) rfl (by kernel_rfl) (by kernel_rfl) (by kernel_rfl) (fun _ _ _ h => h) (Or.inl ⟨by rfl, fun w' hw' => by go_simp⟩) s0 ?_
                try simp only [Act.put, List.getElem_toArray, List.getElem_cons_succ, List.getElem_cons_zero, List.setIfInBounds_toArray, List.set_cons_zero, List.set_cons_succ, Nat.zero_add, List.nil_append]
                refine wpAnyH_take (i := 9) (v := .int .i64 (k : Int)) rfl (by kernel_rfl) (by kernel_rfl) (by kernel_rfl) (fun _ _ _ h => h) (Or.inl ⟨by rfl, fun w' hw' => by go_simp⟩) s0 ?_
                try simp only [Act.put, List.getElem_toArray, List.getElem_cons_succ, List.getElem_cons_zero, List.setIfInBounds_toArray, List.set_cons_zero, List.set_cons_succ, Nat.zero_add, List.nil_append]
                refine wpAnyH_take (i := 10) (v := .pointer (some ⟨g, o + k * 7, none⟩)) rfl (by kernel_rfl) (by kernel_rfl) (by kernel_rfl) (fun _ _ _ h => h) (Or.inl ⟨by rfl, fun w' hw' => by go_simp⟩) s0 ?_
                try simp only [Act.put, List.getElem_toArray, List.getElem_cons_succ, List.getElem_cons_zero, List.setIfInBounds_toArray, List.set_cons_zero, List.set_cons_succ, Nat.zero_add, List.nil_append]
                refine wpAnyH_take (i := 11) (v := .pointer (some ⟨g, o + k * 7 + 1, none⟩)) rfl (by kernel_rfl) (by kernel_rfl) (by kernel_rfl) (fun _ _ _ h => h) (Or.inl ⟨by rfl, fun w' hw' => by go_simp⟩) s0 ?_
                try simp only [Act.put, List.getElem_toArray, List.getElem_cons_succ, List.getElem_cons_zero, List.setIfInBounds_toArray, List.set_cons_zero, List.set_cons_succ, Nat.zero_add, List.nil_append]
                refine wpAnyH_take (i := 12) (v := .int .i64 D.node) rfl (by kernel_rfl) (by kernel_rfl) (by kernel_rfl) (fun _ _ _ h => h) (Or.inl ⟨by rfl, fun w' hw' => by have z0 := (hw'.cell (p := ⟨g, o + k * 7 + 1, none⟩) hg4).trans cN; go_simp⟩) s0 ?_
                try simp only [Act.put, List.getElem_toArray, List.getElem_cons_succ, List.getElem_cons_zero, List.setIfInBounds_toArray, List.set_cons_zero, List.set_cons_succ, Nat.zero_add, List.nil_append]
                refine wpAnyH_ready (rs := [6]) (by kernel_rfl) (by simp) ?_
                refine AllReadyH.cons rfl (fun K hK => ?_) AllReadyH.nil
                rw [if_pos (by rfl)]
                go_simp
                refine (OA.out wd9).mono ?_; rintro e u2 ⟨vA, rfl, hownA, bA_⟩
                obtain ⟨aoA, capA, rfl, sA⟩ := made_arcs hownA
                have s1 := below_next s0 bA_
                
                clear hownA bA_
                go_simp
                refine hK.out _ _ s1 (fun _ => ?_)
                clear hK K
                try simp only [Act.put, List.getElem_toArray, List.getElem_cons_succ, List.getElem_cons_zero, List.setIfInBounds_toArray, List.set_cons_zero, List.set_cons_succ, Nat.zero_add, List.nil_append]
                refine wpAnyH_ready (rs := [13]) (by kernel_rfl) (by simp) ?_
                refine AllReadyH.cons rfl (fun K hK => ?_) AllReadyH.nil
                rw [if_pos (by rfl)]
                go_simp
                refine (OB.out u2).mono ?_; rintro e u3 ⟨vB, rfl, hownB, bB_⟩
                obtain ⟨aoB, capB, rfl, sB⟩ := made_arcs hownB
                have s2 := below_next s1 bB_
                have sA := sA.below bB_
                clear hownB bB_
                go_simp
                refine hK.out _ _ s2 (fun _ => ?_)
                clear hK K
                try simp only [Act.put, List.getElem_toArray, List.getElem_cons_succ, List.getElem_cons_zero, List.setIfInBounds_toArray, List.set_cons_zero, List.set_cons_succ, Nat.zero_add, List.nil_append]
                refine wpAnyH_ready (rs := [14]) (by kernel_rfl) (by simp) ?_
                refine AllReadyH.cons rfl (fun K hK => ?_) AllReadyH.nil
                rw [if_pos (by rfl)]
                go_simp
                refine (rsame_any LL.length hl64 (fromOf LL) (sizeOf_ LL) aoA aoB capA capB u3 sA sB).mono ?_; rintro e u4 ⟨rfl, b4⟩
                have s3 := below_next s2 b4
                clear b4
                go_simp
                refine hK.out _ _ s3 (fun _ => ?_)
                clear hK K
                try simp only [Act.put, List.getElem_toArray, List.getElem_cons_succ, List.getElem_cons_zero, List.setIfInBounds_toArray, List.set_cons_zero, List.set_cons_succ, Nat.zero_add, List.nil_append]
                refine wpAnyH_take (i := 15) (v := .bool true) rfl (by kernel_rfl) (by kernel_rfl) (by kernel_rfl) (fun _ _ _ h => h) (Or.inl ⟨by rfl, fun w' hw' => by go_simp⟩) s3 ?_
                try simp only [Act.put, List.getElem_toArray, List.getElem_cons_succ, List.getElem_cons_zero, List.setIfInBounds_toArray, List.set_cons_zero, List.set_cons_succ, Nat.zero_add, List.nil_append]
                refine wpAnyH_done (by kernel_rfl) ?_ _
                have HZB := Lib.hid s3
                clear s0 s1 s2 s3 sA sB
                go_wp2_with fail
                go_meet
                case rel => exact ⟨rfl, HZB.out⟩
            case rest =>
              obtain ⟨rfl, hl⟩ := hcut
              obtain ⟨wg, hwg⟩ : ∃ x, x = wc := ⟨_, rfl⟩
              rw [← hwg] at hl ⊢
              clear hwg
              have HT9 := Lib.hid (HT1.out.keep hl)
              have HB9 := Lib.hid (HB1.out.keep hl)
              have HK9 := Lib.hid (HKF.out.trans (Keep.of_below hl [bT, bB]))
              clear hl cN HT1 HB1
              go_wp2_with fail
              go_roundw
              case rel => exact ⟨k + 1, V, by omega, by go_num, hokV.out, HT9.out, HB9.out, HK9.out⟩
              case measure => simp [intOf]; omega
theorem leasePlays_law (a : Int) (wa : (Lit.int .i64 a).wf = true) (ao : Option Addr) (n cap : Nat) (hc : n ≤ cap) (hm : n ≤ 140737488355328) (w : World) (hr : DcsRd w ao n) :
    Calls Try.prog 3 #[.int .i64 a, .slice ao n cap] w (LawOk w) := by
  by_cases h : 4 ≤ a ∧ a ≤ 12
  · obtain ⟨m0, rfl⟩ : ∃ m : Nat, a = m := ⟨a.toNat, by omega⟩
    exact plays_yes m0 (by omega) (by omega) ao n cap hm w hr
  · exact plays_no a (by omega) ao n cap hm w
end Go.Proofs.Ytikeiocgnjdhbaa
