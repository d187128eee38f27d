/- RouteHops. -/
import Derived.Test.YtokmchkoojeadaaLawW
import Derived.Test.YtokmchkoojeadaaHd
import Derived.Deep.CutRange
namespace Go.Proofs.Ytokmchkoojeadaa
open Go.RowKit Go.Sort
set_option linter.unusedVariables false
set_option linter.unusedSimpArgs false
set_option maxRecDepth 100000
theorem wp_alloc_msg {o : Oper} {a : Act} {w : World} {K : Act → World → Prop} {Q : Exit → Act → World → Prop} (ho : o.op = .alloc 66)
    (h : K (a.put o.dst (.pointer (some ⟨w.heap.size, 0, none⟩))) (w.alloc (.cells (msgC 0 0 0 (.slice none 0 0)) 66))) : o.wp Try.prog a w K Q := by
  have hrun : (execOp a.eval o).run Try.prog w = .ok (.value (.pointer (some ⟨w.heap.size, 0, none⟩))) (w.alloc (.cells (msgC 0 0 0 (.slice none 0 0)) 66)) := by
    unfold execOp
    simp only [ho]
    kernel_rfl
  unfold Oper.wp
  simp only [hrun, Oper.upon]
  exact h
theorem exec_load_msg {ev : Operand → Value} {o : Oper} {w : World} (x : Operand) (ho : o.op = .load 66 x) (b : Nat) (cs : Array Value) (hx : ev x = .pointer (some ⟨b, 0, none⟩)) (hcs : cs.size = 49) (hr : w.heap[b]? = some (.cells cs 66 (0, 0))) : (execOp ev o).run Try.prog w = .ok (.value (.agg cs)) w := by
  unfold execOp
  simp only [ho, hx]
  have h := load_row49 w b cs hcs hr
  simp only [Sem.run_bind, h, Result.andThen_ok, Sem.run_pure]
theorem wpList_load_msg {w : World} {ops : Array Oper} {rest : List Oper} {o : Oper} {a : Act} {Q : Exit → Act → World → Prop} (hgd : o.guard = none) (x : Operand) (ho : o.op = .load 66 x) (b : Nat) (cs : Array Value) (hx : a.eval x = .pointer (some ⟨b, 0, none⟩)) (hcs : cs.size = 49) (hr : w.heap[b]? = some (.cells cs 66 (0, 0)))
    (h : wpList Try.prog ops Q rest (a.put o.dst (.agg cs)) w) : wpList Try.prog ops Q (o :: rest) a w :=
  wpList_value hgd _ (exec_load_msg x ho b cs hx hcs hr) h
theorem wpList_build_part {w : World} {ops : Array Oper} {rest : List Oper} {o : Oper} {a : Act} {Q : Exit → Act → World → Prop} {parts : Array (Nat × Operand)} (hgd : o.guard = none) (ho : o.op = .build 66 parts) (v : Value) (hrun : (execOp a.eval o).run Try.prog w = .ok (.value v) w)
    (h : wpList Try.prog ops Q rest (a.put o.dst v) w) : wpList Try.prog ops Q (o :: rest) a w := wpList_value hgd v hrun h
theorem msgZ_is (k f t id ph pl hops : Int) (pv : Value) : MsgIs (msgZ k f t id ph pl hops pv) k f t id ph pl hops := ⟨rfl, rfl, rfl, rfl, rfl, rfl, rfl, rfl⟩
set_option maxHeartbeats 25600000 in
theorem routeHops_law (xo : Option Addr) (xn xc : Nat) (hxc : xn ≤ xc) (hxm : xn ≤ 140737488355328) (fa : Int) (wfa : (Lit.int .i64 fa).wf = true) (th : Int) (wth : (Lit.int .u64 th).wf = true) (tl : Int) (wtl : (Lit.int .u64 tl).wf = true) (w : World)
    (hr : ∃ R : List (Int × Int), R.length = xn ∧ PosRd w xo R) : Calls Try.prog 4 #[.slice xo xn xc, .int .i64 fa, pos th tl] w fun e w' => e = .returned (.bool true) ∧ Below w.heap.size w w' := by
  obtain ⟨R, hR, hrd⟩ := hr
  have HRL := Lib.hid hR
  have AW := Lib.hid awake_any
  have HLE := Lib.hid hxm
  have B0 := below_alloc (Below.refl w.heap.size w) (.cells #[.int .u64 th, .int .u64 tl] 24)
  have R1 := heap_alloc_new w (.cells #[.int .u64 th, .int .u64 tl] 24)
  have BB := Lib.hid B0
  have HRD := Lib.hid (hrd.below BB.out)
  have Q1 := Lib.hid R1
  have HWA := Lib.hid (bounds_i64 wfa)
  clear B0 R1 hrd hR hxc hxm wfa wth wtl
  go_enter Try.func4, Try.ntmps4
  go_upto_region 1 with (fail)
  generalize w.alloc (.cells #[.int .u64 th, .int .u64 tl] 24) = w1 at *
  obtain ⟨x1, hx1⟩ : ∃ x, x = w.heap.size := ⟨_, rfl⟩
  rw [← hx1] at Q1 ⊢
  clear hx1
  go_wp2_with fail
  refine (AW.out w1).mono ?_; rintro e w2 ⟨rfl, b2⟩
  have HRD2 := Lib.hid (HRD.out.below b2)
  have Q1 := Lib.hid (row_keep Q1.out (Keep.of_below b2 []) (by simp))
  have BB := Lib.hid (below_next BB.out b2)
  clear b2 AW
  have SO := Lib.hid (sorted_any (cap := xc) w2 HRD2.out HRL.out HLE.out)
  go_wp2_with fail
  refine SO.out.mono ?_; rintro e w3 ⟨lo, lc, rfl, lo3, b3⟩
  have HLO := Lib.hid lo3
  have Q1 := Lib.hid (row_keep Q1.out (Keep.of_below b3 []) (by simp))
  have BB := Lib.hid (below_next BB.out b3)
  have HRI := Lib.hid (sortedN_rises R); have HNU := Lib.hid (sortedN_num R)
  obtain ⟨hl1, hl12⟩ := sortedN_len R
  clear b3 SO lo3
  generalize sortedN R = L at *
  obtain ⟨gl, hgl, _⟩ := owns_none HLO.out (by omega)
  subst hgl
  obtain ⟨n, hn⟩ : ∃ n, L.length = n := ⟨_, rfl⟩
  have HN := Lib.hid hn
  have hn1 : 1 ≤ n := by omega
  have hn12 : n ≤ 12 := by omega
  rw [hn]
  have TA := Lib.hid (tables_any (cap := lc) w3 HLO.out hn (by omega) (by omega) HNU.out)
  clear hl1 hl12 hn
  go_wp2_with fail
  refine TA.out.mono ?_; rintro e w4 ⟨tz, tc, rfl, ⟨T, ht⟩, b4⟩
  have HT := Lib.hid ht
  have HLO := Lib.hid (owns_keep HLO.out (Keep.of_below b4 []) (by simp))
  have Q1 := Lib.hid (row_keep Q1.out (Keep.of_below b4 []) (by simp))
  have BB := Lib.hid (below_next BB.out b4)
  clear ht b4 TA
  obtain ⟨gt, hgt, _⟩ := owns_none HT.out.row (by omega)
  subst hgt
  obtain ⟨o, ho⟩ : ∃ i, i = ownerN L th tl := ⟨_, rfl⟩
  have hon : o < n := by rw [ho, ← HN.out]; exact ownerN_lt (by rw [HN.out]; omega) _ _
  have HOW := Lib.hid ho
  clear ho
  go_upto_if 31 with (fail)
  go_cut [1] from 30 to 34 (fun s1 wx => ∃ v : Int, s1 = .int .i64 v ∧ 0 ≤ v ∧ v ≤ 9223372036854775807 ∧ wx = w4)
  case first =>
    obtain ⟨wa1, wa2⟩ := HWA.out
    by_cases hneg : fa < 0
    · have e1 : IntKind.i64.wrap (fa + 1) = fa + 1 := by rw [IntWalk.i64_in _ (by omega)]
      have e2 : IntKind.i64.wrap (-(fa + 1)) = -(fa + 1) := by rw [IntWalk.i64_in _ (by omega)]
      go_wp2_with fail
      go_meet
      exact ⟨-(fa + 1), rfl, by omega, by omega, rfl⟩
    · go_wp2_with fail
      go_meet
      exact ⟨fa, rfl, by omega, by omega, rfl⟩
  case rest =>
    obtain ⟨v, rfl, hv0, hv1, rfl⟩ := hcut
    obtain ⟨fr, hfn, hf1⟩ : ∃ q : Nat, q < n ∧ Int.tmod v (n : Int) = (q : Int) := by
      refine ⟨v.toNat % n, Nat.mod_lt _ (by omega), ?_⟩
      rw [Int.tmod_eq_emod_of_nonneg hv0, show v = ((v.toNat : Nat) : Int) by omega]
      rfl
    have hf2 : IntKind.i64.wrap (fr : Int) = (fr : Int) := by rw [IntWalk.i64_in _ (by omega)]
    have hf3 : IntKind.i64.wrap (1792 + (fr : Int)) = 1792 + (fr : Int) := by rw [IntWalk.i64_in _ (by omega)]
    have hf4 : IntKind.u64.wrap (1792 + (fr : Int)) = 1792 + (fr : Int) := by rw [IntWalk.u64_in _ (by omega)]
    have hn0 : ¬ (n : Int) = 0 := by omega
    have c0 := cell_of_row wc x1 0 _ _ (0, 0) Q1.out; have c1 := cell_of_row wc x1 1 _ _ (0, 0) Q1.out
    simp only [List.getElem?_toArray, List.getElem?_cons_succ, List.getElem?_cons_zero] at c0 c1
    have RZ := Lib.hid (heap_alloc_new wc (.cells (msgC 0 0 0 (.slice none 0 0)) 66))
    have b1 := below_alloc (Below.refl wc.heap.size wc) (.cells (msgC 0 0 0 (.slice none 0 0)) 66)
    have HB8 := Lib.hid (b1.trans ((Keep.setRow (wc.alloc (.cells (msgC 0 0 0 (.slice none 0 0)) 66)) wc.heap.size (msgZ 21 fr fr (1792 + fr) th tl 0 (.slice none 0 0))).below b1.size (by simp)))
    have HM8 := Lib.hid (setRow_heap _ _ _ (msgZ 21 fr fr (1792 + fr) th tl 0 (.slice none 0 0)) _ _ RZ.out)
    clear b1
    go_wp2_with (first
      | (refine wpList_build_part rfl rfl (.agg (msgZ 21 fr fr (1792 + fr) th tl 0 (.slice none 0 0))) (by unfold msgZ; go_simp) ?_)
      | (refine wpList_alloc_msg rfl rfl (fun w1 hw1 => ?_); subst hw1)
      | (refine wpList_store_row rfl 66 (.tmp 11) (.tmp 45) rfl wc.heap.size (msgZ 21 fr fr (1792 + fr) th tl 0 (.slice none 0 0)) rfl rfl 66 (msgC 0 0 0 (.slice none 0 0)) RZ.out (by rw [msgZ_size]; exact msg_size) rfl (msgZ_zero _ _ _ _ _ _ _) ?_))
    clear RZ c0 c1 hf1 hf2 hf3 hf4
    generalize (wc.alloc (.cells (msgC 0 0 0 (.slice none 0 0)) 66)).setRow wc.heap.size (msgZ 21 fr fr (1792 + fr) th tl 0 (.slice none 0 0)) = w8 at *
    obtain ⟨x2, hx2⟩ : ∃ x, x = wc.heap.size := ⟨_, rfl⟩
    rw [← hx2] at HM8 ⊢
    have HX2 := Lib.hid hx2
    clear hx2
    have HG := Lib.hid (fun (i : Nat) (hi : i < n) => good_at hn12 hi hon)
    go_loopw [12] (fun v12 wr => ∃ h cur f : Nat, v12 = .int .i64 (h : Int) ∧ cur < n ∧ f < n ∧ Hid (h + cost n 6 cur o ≤ logN n + 1) ∧ Hid (wr.heap[x2]? = some (.cells (msgZ 21 f cur (1792 + fr) th tl h (.slice none 0 0)) 66 (0, 0))) ∧ Hid (Below wc.heap.size wc wr)) (fun v12 _ => 20 - (intOf v12).toNat)
    case atStart => exact ⟨0, fr, fr, rfl, hfn, hfn, Lib.hid (by have := (HG.out fr hfn).2.1; omega), HM8, HB8⟩
    case round =>
      obtain ⟨h, cur, f, rfl, hcur, hf, HC, HM, HBB⟩ := hrel
      have hh5 : h ≤ 5 := by have := HC.out; have := logN_le n; omega
      have hh0 : (0 : Int) ≤ (h : Int) := by omega
      have hh20 : (h : Int) < 20 := by omega
      have HT := Lib.hid (HT.out.below HBB.out)
      have HLO := Lib.hid (owns_keep HLO.out (Keep.of_below HBB.out []) (by simp))
      have Q1 := Lib.hid (row_keep Q1.out (Keep.of_below HBB.out []) (by simp))
      have BB := Lib.hid (below_next BB.out HBB.out)
      obtain ⟨⟨b, ao, bcap⟩, ht⟩ : ∃ t, T[cur]? = some t := ⟨_, List.getElem?_eq_getElem (by rw [HT.out.len]; exact hcur)⟩
      obtain ⟨s, p, c, hs, hp, hc, htb⟩ := HT.out.tbs.tb cur _ ht
      have HTI := Lib.hid ht; have HS := Lib.hid hs; have HTB := Lib.hid htb
      obtain ⟨hst1, _, hst3, hst4⟩ := HG.out cur hcur
      obtain ⟨⟨nx, bv⟩, hnx⟩ : ∃ r, stepN n cur o = r := ⟨_, rfl⟩
      have hce := cost_end (n := n) (i := cur) (o := o)
      rw [hnx] at hst1 hst3 hst4 hce
      dsimp only at hst1 hst3 hst4 hce
      obtain ⟨⟨qn, qh, ql⟩, hq⟩ : ∃ x, L[nx]? = some x := ⟨_, List.getElem?_eq_getElem (by rw [HN.out]; exact hst1)⟩
      obtain rfl : qn = (nx : Int) := HNU.out nx _ hq
      have HQ := Lib.hid hq
      have hsn : s.n = (cur : Int) := HNU.out cur s hs
      have HR := Lib.hid (show stepR s p c (fgs L 3 cur) th tl = (⟨(nx : Int), qh, ql⟩, bv, 0) from by
        rw [step_idx HRI.out HNU.out hs hp hc, ← HOW.out, HN.out, hnx]
        simp only [hq])
      have HNE := Lib.hid (show own s p c th tl = true ∨ fgs L 3 cur ≠ [] from by
        by_cases e : cur = o
        · exact .inl (by rw [own_idx HRI.out HNU.out hs hp hc, ← HOW.out]; exact decide_eq_true e)
        · exact .inr (fgs_ne L cur (by rw [fgs_zero hs hc]; unfold fing0; rw [aln_ring HNU.out (by rw [HN.out]; omega) hs hc]; simp) 3))
      have HLEN := Lib.hid (show (fgs L 3 cur).length ≤ 1000 from by have := fgs_len L 3 cur; omega)
      have G1 := Lib.hid (show ((cur : Int) != s.n) = false from by rw [hsn]; simp)
      have G2 := Lib.hid (show isN (f : Int) = true from by unfold isN; simp; omega)
      have G3 := Lib.hid (show decide ((h : Int) < 0) = false from decide_eq_false (by omega))
      have G4 := Lib.hid (show decide (255 < (h : Int)) = false from decide_eq_false (by omega))
      have LD := Lib.hid (show ∀ w', Below wr.heap.size wr w' → w'.cell? ⟨gt, cur, none⟩ = some (.pointer (some ⟨b, 0, none⟩)) ∧ w'.cell? ⟨x2, 2, none⟩ = some (.int .i64 (cur : Int)) ∧ w'.heap[x2]? = some (.cells (msgZ 21 f cur (1792 + fr) th tl h (.slice none 0 0)) 66 (0, 0)) from fun w' k' => by
        obtain ⟨g1, e1, _, c1⟩ := owns_c1 (HT.out.below k').row (j := cur) (v := .pointer (some ⟨b, 0, none⟩)) (by rw [List.getElem?_map, HTI.out]; rfl)
        cases e1
        have q := row_keep HM.out (Keep.of_below k' []) (by simp)
        exact ⟨c1, (cell_of_row _ _ 2 _ _ (0, 0) q).trans (msgZ_is _ _ _ _ _ _ _ _).t, q⟩)
      have hc0 : (0 : Int) ≤ (cur : Int) := by omega
      have hcn : (cur : Int) < (n : Int) := by omega
      clear ht hs hp hc htb hq
      cases bv
      · skip
        have HW := Lib.hid (fun w1 (k : Below wr.heap.size wr w1) => handle_l w1 (HTB.out.below k) (msgZ_is 21 f cur (1792 + fr) th tl h (.slice none 0 0)) (by decide) G1.out G2.out G3.out G4.out HLEN.out HNE.out HR.out (by omega))
        rw [hsn] at HW
        clear HR HNE HLEN G1 G2 G3 G4 hsn
        go_upto_region 13 with (fail)
        refine wp_region_held_drew (S := fun w' => Below wr.heap.size wr w') (by kernel_rfl) ((Below.refl _ _).drew) (fun s0 => ?_)
        generalize wr.drew = wd at *
        refine wpAnyH_take (i := 0) (v := .slice (some ⟨gt, 0, none⟩) n tc) rfl (by kernel_rfl) (by kernel_rfl) (by kernel_rfl) (fun _ _ _ h => h) (Or.inl ⟨by rfl, fun w' hw' => by go_simp⟩) s0 ?_
        try simp only [Act.put, List.getElem_toArray, List.getElem_cons_succ, List.getElem_cons_zero, List.setIfInBounds_toArray, List.set_cons_zero, List.set_cons_succ, Nat.zero_add, List.nil_append]
        refine wpAnyH_take (i := 1) (v := .pointer (some ⟨x2, 2, none⟩)) rfl (by kernel_rfl) (by kernel_rfl) (by kernel_rfl) (fun _ _ _ h => h) (Or.inl ⟨by rfl, fun w' hw' => by go_simp⟩) s0 ?_
        try simp only [Act.put, List.getElem_toArray, List.getElem_cons_succ, List.getElem_cons_zero, List.setIfInBounds_toArray, List.set_cons_zero, List.set_cons_succ, Nat.zero_add, List.nil_append]
        refine wpAnyH_take (i := 2) (v := .int .i64 (cur : Int)) rfl (by kernel_rfl) (by kernel_rfl) (by kernel_rfl) (fun _ _ _ h => h) (Or.inl ⟨by rfl, fun w' hw' => by obtain ⟨z0, z1, _⟩ := LD.out _ hw'; go_simp⟩) s0 ?_
        try simp only [Act.put, List.getElem_toArray, List.getElem_cons_succ, List.getElem_cons_zero, List.setIfInBounds_toArray, List.set_cons_zero, List.set_cons_succ, Nat.zero_add, List.nil_append]
        refine wpAnyH_take (i := 3) (v := .pointer (some ⟨gt, cur, none⟩)) rfl (by kernel_rfl) (by kernel_rfl) (by kernel_rfl) (fun _ _ _ h => h) (Or.inl ⟨by rfl, fun w' hw' => by go_simp⟩) s0 ?_
        try simp only [Act.put, List.getElem_toArray, List.getElem_cons_succ, List.getElem_cons_zero, List.setIfInBounds_toArray, List.set_cons_zero, List.set_cons_succ, Nat.zero_add, List.nil_append]
        refine wpAnyH_take (i := 4) (v := .pointer (some ⟨b, 0, none⟩)) rfl (by kernel_rfl) (by kernel_rfl) (by kernel_rfl) (fun _ _ _ h => h) (Or.inl ⟨by rfl, fun w' hw' => by obtain ⟨z0, z1, _⟩ := LD.out _ hw'; go_simp⟩) s0 ?_
        try simp only [Act.put, List.getElem_toArray, List.getElem_cons_succ, List.getElem_cons_zero, List.setIfInBounds_toArray, List.set_cons_zero, List.set_cons_succ, Nat.zero_add, List.nil_append]
        refine wpAnyH_take (i := 5) (v := .agg (msgZ 21 f cur (1792 + fr) th tl h (.slice none 0 0))) rfl (by kernel_rfl) (by kernel_rfl) (by kernel_rfl) (fun _ _ _ h => h) (Or.inl ⟨by rfl, fun w' hw' => by exact exec_load_msg (.tmp 11) rfl x2 _ rfl (msgZ_size _ _ _ _ _ _ _ _) (LD.out _ hw').2.2⟩) s0 ?_
        try simp only [Act.put, List.getElem_toArray, List.getElem_cons_succ, List.getElem_cons_zero, List.setIfInBounds_toArray, List.set_cons_zero, List.set_cons_succ, Nat.zero_add, List.nil_append]
        refine wpAnyH_ready (rs := [6, 10]) (by kernel_rfl) (by simp) ?_
        refine AllReadyH.cons rfl (fun K hK => ?_) (AllReadyH.cons rfl (fun K hK => ?_) AllReadyH.nil)
        · skip
          rw [if_pos (by rfl)]
          go_simp
          refine (HW.out wd s0).mono ?_; rintro e w2 ⟨rfl, b2⟩
          have s1 := below_next s0 b2
          clear b2
          go_simp
          refine hK.out _ _ s1 (fun _ => ?_)
          clear hK K
          try simp only [Act.put, List.getElem_toArray, List.getElem_cons_succ, List.getElem_cons_zero, List.setIfInBounds_toArray, List.set_cons_zero, List.set_cons_succ, Nat.zero_add, List.nil_append]
          refine wpAnyH_take (i := 7) (v := .tuple #[.agg (msgZ 21 cur nx (1792 + fr) th tl (h + 1) (.slice none 0 0)), .int .i64 0]) rfl (by kernel_rfl) (by kernel_rfl) (by kernel_rfl) (fun _ _ _ h => h) (Or.inl ⟨by rfl, fun w' hw' => by go_simp⟩) s1 ?_
          try simp only [Act.put, List.getElem_toArray, List.getElem_cons_succ, List.getElem_cons_zero, List.setIfInBounds_toArray, List.set_cons_zero, List.set_cons_succ, Nat.zero_add, List.nil_append]
          refine wpAnyH_take (i := 8) (v := .agg (msgZ 21 cur nx (1792 + fr) th tl (h + 1) (.slice none 0 0))) rfl (by kernel_rfl) (by kernel_rfl) (by kernel_rfl) (fun _ _ _ h => h) (Or.inl ⟨by rfl, fun w' hw' => by go_simp⟩) s1 ?_
          try simp only [Act.put, List.getElem_toArray, List.getElem_cons_succ, List.getElem_cons_zero, List.setIfInBounds_toArray, List.set_cons_zero, List.set_cons_succ, Nat.zero_add, List.nil_append]
          refine wpAnyH_take (i := 9) (v := .int .i64 0) rfl (by kernel_rfl) (by kernel_rfl) (by kernel_rfl) (fun _ _ _ h => h) (Or.inl ⟨by rfl, fun w' hw' => by go_simp⟩) s1 ?_
          try simp only [Act.put, List.getElem_toArray, List.getElem_cons_succ, List.getElem_cons_zero, List.setIfInBounds_toArray, List.set_cons_zero, List.set_cons_succ, Nat.zero_add, List.nil_append]
          refine wpAnyH_ready (rs := [10]) (by kernel_rfl) (by simp) ?_
          refine AllReadyH.cons rfl (fun K hK => ?_) AllReadyH.nil
          rw [if_pos (by rfl)]
          refine wp_alloc_msg rfl ?_
          have r3 := heap_alloc_new w2 (.cells (msgC 0 0 0 (.slice none 0 0)) 66)
          have s2 := below_alloc s1 (.cells (msgC 0 0 0 (.slice none 0 0)) 66)
          have hbs := s1.size
          generalize w2.alloc (.cells (msgC 0 0 0 (.slice none 0 0)) 66) = w3 at *
          obtain ⟨bx, hbx⟩ : ∃ q, q = w2.heap.size := ⟨_, rfl⟩
          rw [← hbx] at r3 hbs ⊢
          clear hbx
          refine hK.out _ _ s2 (fun _ => ?_)
          clear hK K
          try simp only [Act.put, List.getElem_toArray, List.getElem_cons_succ, List.getElem_cons_zero, List.setIfInBounds_toArray, List.set_cons_zero, List.set_cons_succ, Nat.zero_add, List.nil_append]
          refine wpAnyH_ready (rs := [11]) (by kernel_rfl) (by simp) ?_
          refine AllReadyH.cons rfl (fun K hK => ?_) AllReadyH.nil
          rw [if_pos (by rfl)]
          refine wp_store_row 66 (.tmp 13) (.tmp 58) rfl bx (msgZ 21 cur nx (1792 + fr) th tl (h + 1) (.slice none 0 0)) rfl rfl 66 (msgC 0 0 0 (.slice none 0 0)) r3 (by rw [msgZ_size]; exact msg_size) rfl (msgZ_zero _ _ _ _ _ _ _) ?_
          have s9 : Below wr.heap.size wr (w3.setRow bx (msgZ 21 cur nx (1792 + fr) th tl (h + 1) (.slice none 0 0))) := s2.trans ((Keep.setRow w3 bx (msgZ 21 cur nx (1792 + fr) th tl (h + 1) (.slice none 0 0))).below s2.size (by simpa using hbs))
          have HXR := Lib.hid (setRow_heap _ _ _ (msgZ 21 cur nx (1792 + fr) th tl (h + 1) (.slice none 0 0)) _ _ r3)
          generalize w3.setRow bx (msgZ 21 cur nx (1792 + fr) th tl (h + 1) (.slice none 0 0)) = wz at *
          refine hK.out _ _ s9 (fun _ => ?_)
          clear hK K
          try simp only [Act.put, List.getElem_toArray, List.getElem_cons_succ, List.getElem_cons_zero, List.setIfInBounds_toArray, List.set_cons_zero, List.set_cons_succ, Nat.zero_add, List.nil_append]
          refine wpAnyH_take (i := 12) (v := .int .i64 0) rfl (by kernel_rfl) (by kernel_rfl) (by kernel_rfl) (fun _ _ _ h => h) (Or.inl ⟨by rfl, fun w' hw' => by go_simp⟩) s9 ?_
          try simp only [Act.put, List.getElem_toArray, List.getElem_cons_succ, List.getElem_cons_zero, List.setIfInBounds_toArray, List.set_cons_zero, List.set_cons_succ, Nat.zero_add, List.nil_append]
          refine wpAnyH_done (by kernel_rfl) ?_ _
          have HZB := Lib.hid s9
          clear r3 hbs
          clear s0 s1 s2 s9
          have HT := Lib.hid (HT.out.below HZB.out)
          have HLO := Lib.hid (owns_keep HLO.out (Keep.of_below HZB.out []) (by simp))
          have Q1 := Lib.hid (row_keep Q1.out (Keep.of_below HZB.out []) (by simp))
          have HM := Lib.hid (row_keep HM.out (Keep.of_below HZB.out []) (by simp))
          have BBz := Lib.hid (below_next BB.out HZB.out)
          have o0 := (cell_of_row wz bx 0 _ _ (0, 0) HXR.out).trans (msgZ_is _ _ _ _ _ _ _ _).k; have o1 := (cell_of_row wz bx 1 _ _ (0, 0) HXR.out).trans (msgZ_is _ _ _ _ _ _ _ _).f; have o2 := (cell_of_row wz bx 2 _ _ (0, 0) HXR.out).trans (msgZ_is _ _ _ _ _ _ _ _).t; have o20 := (cell_of_row wz bx 20 _ _ (0, 0) HXR.out).trans (msgZ_is _ _ _ _ _ _ _ _).id; have o45 := (cell_of_row wz bx 45 _ _ (0, 0) HXR.out).trans (msgZ_is _ _ _ _ _ _ _ _).ph; have o46 := (cell_of_row wz bx 46 _ _ (0, 0) HXR.out).trans (msgZ_is _ _ _ _ _ _ _ _).pl; have o47 := (cell_of_row wz bx 47 _ _ (0, 0) HXR.out).trans (msgZ_is _ _ _ _ _ _ _ _).hops
          have m2 := (cell_of_row wz x2 2 _ _ (0, 0) HM.out).trans (msgZ_is _ _ _ _ _ _ _ _).t; have m20 := (cell_of_row wz x2 20 _ _ (0, 0) HM.out).trans (msgZ_is _ _ _ _ _ _ _ _).id; have m47 := (cell_of_row wz x2 47 _ _ (0, 0) HM.out).trans (msgZ_is _ _ _ _ _ _ _ _).hops
          have c0 := cell_of_row wz x1 0 _ _ (0, 0) Q1.out; have c1 := cell_of_row wz x1 1 _ _ (0, 0) Q1.out
          simp only [List.getElem?_toArray, List.getElem?_cons_succ, List.getElem?_cons_zero] at c0 c1
          have EQ := fun w => neq_pos th tl th tl w
          simp only [beq_self_eq_true, Bool.and_self, Bool.not_true] at EQ
          have w3h : IntKind.i64.wrap ((h : Int) + 1) = (h : Int) + 1 := by rw [IntWalk.i64_in _ (by omega)]
          have hx0 : ¬ (nx : Int) < 0 := by omega
          have hxn : ¬ (nx : Int) ≥ (n : Int) := by omega
          have hxn2 : ¬ (n : Int) ≤ (nx : Int) := by omega
          have HNM := Lib.hid (setRow_heap _ _ _ (msgZ 21 cur nx (1792 + fr) th tl (h + 1) (.slice none 0 0)) _ _ HM.out)
          have HNB := Lib.hid ((below_next HBB.out HZB.out).trans ((Keep.setRow wz x2 (msgZ 21 cur nx (1792 + fr) th tl (h + 1) (.slice none 0 0))).below (below_next HBB.out HZB.out).size (by have := HX2.out; simp; omega)))
          go_wp2_with (first
            | (refine wpList_load_msg rfl (.tmp 13) rfl bx _ rfl (msgZ_size _ _ _ _ _ _ _ _) HXR.out ?_)
            | (refine wpList_store_row rfl 66 (.tmp 11) (.tmp 103) rfl x2 (msgZ 21 cur nx (1792 + fr) th tl (h + 1) (.slice none 0 0)) rfl rfl 66 (msgZ 21 f cur (1792 + fr) th tl h (.slice none 0 0)) HM.out (by rw [msgZ_size]; exact msg_size) rfl (msgZ_zero _ _ _ _ _ _ _) ?_))
          go_roundw
          case rel => exact ⟨h + 1, nx, cur, by go_num, hst1, hcur, Lib.hid (by have e1 := HC.out; have e2 := hst3 rfl; omega), HNM, HNB⟩
          case measure => simp [intOf]; omega
        · skip
          rw [if_pos (by rfl)]
          refine wp_alloc_msg rfl ?_
          have r3 := heap_alloc_new wd (.cells (msgC 0 0 0 (.slice none 0 0)) 66)
          have s1 := below_alloc s0 (.cells (msgC 0 0 0 (.slice none 0 0)) 66)
          have hbs := s0.size
          generalize wd.alloc (.cells (msgC 0 0 0 (.slice none 0 0)) 66) = w2 at *
          obtain ⟨bx, hbx⟩ : ∃ q, q = wd.heap.size := ⟨_, rfl⟩
          rw [← hbx] at r3 hbs ⊢
          clear hbx
          refine hK.out _ _ s1 (fun _ => ?_)
          clear hK K
          try simp only [Act.put, List.getElem_toArray, List.getElem_cons_succ, List.getElem_cons_zero, List.setIfInBounds_toArray, List.set_cons_zero, List.set_cons_succ, Nat.zero_add, List.nil_append]
          refine wpAnyH_ready (rs := [6]) (by kernel_rfl) (by simp) ?_
          refine AllReadyH.cons rfl (fun K hK => ?_) AllReadyH.nil
          rw [if_pos (by rfl)]
          go_simp
          refine (HW.out w2 s1).mono ?_; rintro e w3 ⟨rfl, b2⟩
          have s2 := below_next s1 b2
          have r3 := row_keep r3 (Keep.of_below b2 []) (by simp)
          clear b2
          go_simp
          refine hK.out _ _ s2 (fun _ => ?_)
          clear hK K
          try simp only [Act.put, List.getElem_toArray, List.getElem_cons_succ, List.getElem_cons_zero, List.setIfInBounds_toArray, List.set_cons_zero, List.set_cons_succ, Nat.zero_add, List.nil_append]
          refine wpAnyH_take (i := 7) (v := .tuple #[.agg (msgZ 21 cur nx (1792 + fr) th tl (h + 1) (.slice none 0 0)), .int .i64 0]) rfl (by kernel_rfl) (by kernel_rfl) (by kernel_rfl) (fun _ _ _ h => h) (Or.inl ⟨by rfl, fun w' hw' => by go_simp⟩) s2 ?_
          try simp only [Act.put, List.getElem_toArray, List.getElem_cons_succ, List.getElem_cons_zero, List.setIfInBounds_toArray, List.set_cons_zero, List.set_cons_succ, Nat.zero_add, List.nil_append]
          refine wpAnyH_take (i := 8) (v := .agg (msgZ 21 cur nx (1792 + fr) th tl (h + 1) (.slice none 0 0))) rfl (by kernel_rfl) (by kernel_rfl) (by kernel_rfl) (fun _ _ _ h => h) (Or.inl ⟨by rfl, fun w' hw' => by go_simp⟩) s2 ?_
          try simp only [Act.put, List.getElem_toArray, List.getElem_cons_succ, List.getElem_cons_zero, List.setIfInBounds_toArray, List.set_cons_zero, List.set_cons_succ, Nat.zero_add, List.nil_append]
          refine wpAnyH_take (i := 9) (v := .int .i64 0) rfl (by kernel_rfl) (by kernel_rfl) (by kernel_rfl) (fun _ _ _ h => h) (Or.inl ⟨by rfl, fun w' hw' => by go_simp⟩) s2 ?_
          try simp only [Act.put, List.getElem_toArray, List.getElem_cons_succ, List.getElem_cons_zero, List.setIfInBounds_toArray, List.set_cons_zero, List.set_cons_succ, Nat.zero_add, List.nil_append]
          refine wpAnyH_ready (rs := [11]) (by kernel_rfl) (by simp) ?_
          refine AllReadyH.cons rfl (fun K hK => ?_) AllReadyH.nil
          rw [if_pos (by rfl)]
          refine wp_store_row 66 (.tmp 13) (.tmp 58) rfl bx (msgZ 21 cur nx (1792 + fr) th tl (h + 1) (.slice none 0 0)) rfl rfl 66 (msgC 0 0 0 (.slice none 0 0)) r3 (by rw [msgZ_size]; exact msg_size) rfl (msgZ_zero _ _ _ _ _ _ _) ?_
          have s9 : Below wr.heap.size wr (w3.setRow bx (msgZ 21 cur nx (1792 + fr) th tl (h + 1) (.slice none 0 0))) := s2.trans ((Keep.setRow w3 bx (msgZ 21 cur nx (1792 + fr) th tl (h + 1) (.slice none 0 0))).below s2.size (by simpa using hbs))
          have HXR := Lib.hid (setRow_heap _ _ _ (msgZ 21 cur nx (1792 + fr) th tl (h + 1) (.slice none 0 0)) _ _ r3)
          generalize w3.setRow bx (msgZ 21 cur nx (1792 + fr) th tl (h + 1) (.slice none 0 0)) = wz at *
          refine hK.out _ _ s9 (fun _ => ?_)
          clear hK K
          try simp only [Act.put, List.getElem_toArray, List.getElem_cons_succ, List.getElem_cons_zero, List.setIfInBounds_toArray, List.set_cons_zero, List.set_cons_succ, Nat.zero_add, List.nil_append]
          refine wpAnyH_take (i := 12) (v := .int .i64 0) rfl (by kernel_rfl) (by kernel_rfl) (by kernel_rfl) (fun _ _ _ h => h) (Or.inl ⟨by rfl, fun w' hw' => by go_simp⟩) s9 ?_
          try simp only [Act.put, List.getElem_toArray, List.getElem_cons_succ, List.getElem_cons_zero, List.setIfInBounds_toArray, List.set_cons_zero, List.set_cons_succ, Nat.zero_add, List.nil_append]
          refine wpAnyH_done (by kernel_rfl) ?_ _
          have HZB := Lib.hid s9
          clear r3 hbs
          clear s0 s1 s2 s9
          have HT := Lib.hid (HT.out.below HZB.out)
          have HLO := Lib.hid (owns_keep HLO.out (Keep.of_below HZB.out []) (by simp))
          have Q1 := Lib.hid (row_keep Q1.out (Keep.of_below HZB.out []) (by simp))
          have HM := Lib.hid (row_keep HM.out (Keep.of_below HZB.out []) (by simp))
          have BBz := Lib.hid (below_next BB.out HZB.out)
          have o0 := (cell_of_row wz bx 0 _ _ (0, 0) HXR.out).trans (msgZ_is _ _ _ _ _ _ _ _).k; have o1 := (cell_of_row wz bx 1 _ _ (0, 0) HXR.out).trans (msgZ_is _ _ _ _ _ _ _ _).f; have o2 := (cell_of_row wz bx 2 _ _ (0, 0) HXR.out).trans (msgZ_is _ _ _ _ _ _ _ _).t; have o20 := (cell_of_row wz bx 20 _ _ (0, 0) HXR.out).trans (msgZ_is _ _ _ _ _ _ _ _).id; have o45 := (cell_of_row wz bx 45 _ _ (0, 0) HXR.out).trans (msgZ_is _ _ _ _ _ _ _ _).ph; have o46 := (cell_of_row wz bx 46 _ _ (0, 0) HXR.out).trans (msgZ_is _ _ _ _ _ _ _ _).pl; have o47 := (cell_of_row wz bx 47 _ _ (0, 0) HXR.out).trans (msgZ_is _ _ _ _ _ _ _ _).hops
          have m2 := (cell_of_row wz x2 2 _ _ (0, 0) HM.out).trans (msgZ_is _ _ _ _ _ _ _ _).t; have m20 := (cell_of_row wz x2 20 _ _ (0, 0) HM.out).trans (msgZ_is _ _ _ _ _ _ _ _).id; have m47 := (cell_of_row wz x2 47 _ _ (0, 0) HM.out).trans (msgZ_is _ _ _ _ _ _ _ _).hops
          have c0 := cell_of_row wz x1 0 _ _ (0, 0) Q1.out; have c1 := cell_of_row wz x1 1 _ _ (0, 0) Q1.out
          simp only [List.getElem?_toArray, List.getElem?_cons_succ, List.getElem?_cons_zero] at c0 c1
          have EQ := fun w => neq_pos th tl th tl w
          simp only [beq_self_eq_true, Bool.and_self, Bool.not_true] at EQ
          have w3h : IntKind.i64.wrap ((h : Int) + 1) = (h : Int) + 1 := by rw [IntWalk.i64_in _ (by omega)]
          have hx0 : ¬ (nx : Int) < 0 := by omega
          have hxn : ¬ (nx : Int) ≥ (n : Int) := by omega
          have hxn2 : ¬ (n : Int) ≤ (nx : Int) := by omega
          have HNM := Lib.hid (setRow_heap _ _ _ (msgZ 21 cur nx (1792 + fr) th tl (h + 1) (.slice none 0 0)) _ _ HM.out)
          have HNB := Lib.hid ((below_next HBB.out HZB.out).trans ((Keep.setRow wz x2 (msgZ 21 cur nx (1792 + fr) th tl (h + 1) (.slice none 0 0))).below (below_next HBB.out HZB.out).size (by have := HX2.out; simp; omega)))
          go_wp2_with (first
            | (refine wpList_load_msg rfl (.tmp 13) rfl bx _ rfl (msgZ_size _ _ _ _ _ _ _ _) HXR.out ?_)
            | (refine wpList_store_row rfl 66 (.tmp 11) (.tmp 103) rfl x2 (msgZ 21 cur nx (1792 + fr) th tl (h + 1) (.slice none 0 0)) rfl rfl 66 (msgZ 21 f cur (1792 + fr) th tl h (.slice none 0 0)) HM.out (by rw [msgZ_size]; exact msg_size) rfl (msgZ_zero _ _ _ _ _ _ _) ?_))
          go_roundw
          case rel => exact ⟨h + 1, nx, cur, by go_num, hst1, hcur, Lib.hid (by have e1 := HC.out; have e2 := hst3 rfl; omega), HNM, HNB⟩
          case measure => simp [intOf]; omega
      · skip
        have hid256 : (1792 + (fr : Int)) % 256 = (fr : Int) := by omega
        have HW := Lib.hid (fun w1 (k : Below wr.heap.size wr w1) => handle_o w1 (HTB.out.below k) (msgZ_is 21 f cur (1792 + fr) th tl h (.slice none 0 0)) (by decide) G1.out G2.out G3.out G4.out HLEN.out HNE.out HR.out (by omega))
        rw [hsn, hid256] at HW
        clear HR HNE HLEN G1 G2 G3 G4 hsn
        go_upto_region 13 with (fail)
        refine wp_region_held_drew (S := fun w' => Below wr.heap.size wr w') (by kernel_rfl) ((Below.refl _ _).drew) (fun s0 => ?_)
        generalize wr.drew = wd at *
        refine wpAnyH_take (i := 0) (v := .slice (some ⟨gt, 0, none⟩) n tc) rfl (by kernel_rfl) (by kernel_rfl) (by kernel_rfl) (fun _ _ _ h => h) (Or.inl ⟨by rfl, fun w' hw' => by go_simp⟩) s0 ?_
        try simp only [Act.put, List.getElem_toArray, List.getElem_cons_succ, List.getElem_cons_zero, List.setIfInBounds_toArray, List.set_cons_zero, List.set_cons_succ, Nat.zero_add, List.nil_append]
        refine wpAnyH_take (i := 1) (v := .pointer (some ⟨x2, 2, none⟩)) rfl (by kernel_rfl) (by kernel_rfl) (by kernel_rfl) (fun _ _ _ h => h) (Or.inl ⟨by rfl, fun w' hw' => by go_simp⟩) s0 ?_
        try simp only [Act.put, List.getElem_toArray, List.getElem_cons_succ, List.getElem_cons_zero, List.setIfInBounds_toArray, List.set_cons_zero, List.set_cons_succ, Nat.zero_add, List.nil_append]
        refine wpAnyH_take (i := 2) (v := .int .i64 (cur : Int)) rfl (by kernel_rfl) (by kernel_rfl) (by kernel_rfl) (fun _ _ _ h => h) (Or.inl ⟨by rfl, fun w' hw' => by obtain ⟨z0, z1, _⟩ := LD.out _ hw'; go_simp⟩) s0 ?_
        try simp only [Act.put, List.getElem_toArray, List.getElem_cons_succ, List.getElem_cons_zero, List.setIfInBounds_toArray, List.set_cons_zero, List.set_cons_succ, Nat.zero_add, List.nil_append]
        refine wpAnyH_take (i := 3) (v := .pointer (some ⟨gt, cur, none⟩)) rfl (by kernel_rfl) (by kernel_rfl) (by kernel_rfl) (fun _ _ _ h => h) (Or.inl ⟨by rfl, fun w' hw' => by go_simp⟩) s0 ?_
        try simp only [Act.put, List.getElem_toArray, List.getElem_cons_succ, List.getElem_cons_zero, List.setIfInBounds_toArray, List.set_cons_zero, List.set_cons_succ, Nat.zero_add, List.nil_append]
        refine wpAnyH_take (i := 4) (v := .pointer (some ⟨b, 0, none⟩)) rfl (by kernel_rfl) (by kernel_rfl) (by kernel_rfl) (fun _ _ _ h => h) (Or.inl ⟨by rfl, fun w' hw' => by obtain ⟨z0, z1, _⟩ := LD.out _ hw'; go_simp⟩) s0 ?_
        try simp only [Act.put, List.getElem_toArray, List.getElem_cons_succ, List.getElem_cons_zero, List.setIfInBounds_toArray, List.set_cons_zero, List.set_cons_succ, Nat.zero_add, List.nil_append]
        refine wpAnyH_take (i := 5) (v := .agg (msgZ 21 f cur (1792 + fr) th tl h (.slice none 0 0))) rfl (by kernel_rfl) (by kernel_rfl) (by kernel_rfl) (fun _ _ _ h => h) (Or.inl ⟨by rfl, fun w' hw' => by exact exec_load_msg (.tmp 11) rfl x2 _ rfl (msgZ_size _ _ _ _ _ _ _ _) (LD.out _ hw').2.2⟩) s0 ?_
        try simp only [Act.put, List.getElem_toArray, List.getElem_cons_succ, List.getElem_cons_zero, List.setIfInBounds_toArray, List.set_cons_zero, List.set_cons_succ, Nat.zero_add, List.nil_append]
        refine wpAnyH_ready (rs := [6, 10]) (by kernel_rfl) (by simp) ?_
        refine AllReadyH.cons rfl (fun K hK => ?_) (AllReadyH.cons rfl (fun K hK => ?_) AllReadyH.nil)
        · skip
          rw [if_pos (by rfl)]
          go_simp
          refine (HW.out wd s0).mono ?_; rintro e w2 ⟨g, rfl, hg, hgw, b2⟩
          have s1 := below_next s0 b2
          have HGR := Lib.hid hg
          clear hg
          clear b2
          go_simp
          refine hK.out _ _ s1 (fun _ => ?_)
          clear hK K
          try simp only [Act.put, List.getElem_toArray, List.getElem_cons_succ, List.getElem_cons_zero, List.setIfInBounds_toArray, List.set_cons_zero, List.set_cons_succ, Nat.zero_add, List.nil_append]
          refine wpAnyH_take (i := 7) (v := .tuple #[.agg (msgZ 22 cur fr (1792 + fr) th tl h (.slice (some ⟨g, 0, none⟩) 1 1)), .int .i64 0]) rfl (by kernel_rfl) (by kernel_rfl) (by kernel_rfl) (fun _ _ _ h => h) (Or.inl ⟨by rfl, fun w' hw' => by go_simp⟩) s1 ?_
          try simp only [Act.put, List.getElem_toArray, List.getElem_cons_succ, List.getElem_cons_zero, List.setIfInBounds_toArray, List.set_cons_zero, List.set_cons_succ, Nat.zero_add, List.nil_append]
          refine wpAnyH_take (i := 8) (v := .agg (msgZ 22 cur fr (1792 + fr) th tl h (.slice (some ⟨g, 0, none⟩) 1 1))) rfl (by kernel_rfl) (by kernel_rfl) (by kernel_rfl) (fun _ _ _ h => h) (Or.inl ⟨by rfl, fun w' hw' => by go_simp⟩) s1 ?_
          try simp only [Act.put, List.getElem_toArray, List.getElem_cons_succ, List.getElem_cons_zero, List.setIfInBounds_toArray, List.set_cons_zero, List.set_cons_succ, Nat.zero_add, List.nil_append]
          refine wpAnyH_take (i := 9) (v := .int .i64 0) rfl (by kernel_rfl) (by kernel_rfl) (by kernel_rfl) (fun _ _ _ h => h) (Or.inl ⟨by rfl, fun w' hw' => by go_simp⟩) s1 ?_
          try simp only [Act.put, List.getElem_toArray, List.getElem_cons_succ, List.getElem_cons_zero, List.setIfInBounds_toArray, List.set_cons_zero, List.set_cons_succ, Nat.zero_add, List.nil_append]
          refine wpAnyH_ready (rs := [10]) (by kernel_rfl) (by simp) ?_
          refine AllReadyH.cons rfl (fun K hK => ?_) AllReadyH.nil
          rw [if_pos (by rfl)]
          refine wp_alloc_msg rfl ?_
          have r3 := heap_alloc_new w2 (.cells (msgC 0 0 0 (.slice none 0 0)) 66)
          have s2 := below_alloc s1 (.cells (msgC 0 0 0 (.slice none 0 0)) 66)
          have hbs := s1.size
          have HGR0 := HGR
          have HGR := Lib.hid (row_keep HGR.out (Keep.of_below (below_alloc (Below.refl w2.heap.size w2) (.cells (msgC 0 0 0 (.slice none 0 0)) 66)) []) (by simp))
          generalize w2.alloc (.cells (msgC 0 0 0 (.slice none 0 0)) 66) = w3 at *
          obtain ⟨bx, hbx⟩ : ∃ q, q = w2.heap.size := ⟨_, rfl⟩
          rw [← hbx] at r3 hbs ⊢
          have hgx : g < bx := by rw [hbx]; exact (Array.getElem?_eq_some_iff.1 HGR0.out).1
          clear hbx
          refine hK.out _ _ s2 (fun _ => ?_)
          clear hK K
          try simp only [Act.put, List.getElem_toArray, List.getElem_cons_succ, List.getElem_cons_zero, List.setIfInBounds_toArray, List.set_cons_zero, List.set_cons_succ, Nat.zero_add, List.nil_append]
          refine wpAnyH_ready (rs := [11]) (by kernel_rfl) (by simp) ?_
          refine AllReadyH.cons rfl (fun K hK => ?_) AllReadyH.nil
          rw [if_pos (by rfl)]
          refine wp_store_row 66 (.tmp 13) (.tmp 58) rfl bx (msgZ 22 cur fr (1792 + fr) th tl h (.slice (some ⟨g, 0, none⟩) 1 1)) rfl rfl 66 (msgC 0 0 0 (.slice none 0 0)) r3 (by rw [msgZ_size]; exact msg_size) rfl (msgZ_one _ _ _ _ _ _ _ _ _ _) ?_
          have s9 : Below wr.heap.size wr (w3.setRow bx (msgZ 22 cur fr (1792 + fr) th tl h (.slice (some ⟨g, 0, none⟩) 1 1))) := s2.trans ((Keep.setRow w3 bx (msgZ 22 cur fr (1792 + fr) th tl h (.slice (some ⟨g, 0, none⟩) 1 1))).below s2.size (by simpa using hbs))
          have HXR := Lib.hid (setRow_heap _ _ _ (msgZ 22 cur fr (1792 + fr) th tl h (.slice (some ⟨g, 0, none⟩) 1 1)) _ _ r3)
          have HGR := Lib.hid (row_keep HGR.out (Keep.setRow w3 bx (msgZ 22 cur fr (1792 + fr) th tl h (.slice (some ⟨g, 0, none⟩) 1 1))) (by simp; omega))
          generalize w3.setRow bx (msgZ 22 cur fr (1792 + fr) th tl h (.slice (some ⟨g, 0, none⟩) 1 1)) = wz at *
          refine hK.out _ _ s9 (fun _ => ?_)
          clear hK K
          try simp only [Act.put, List.getElem_toArray, List.getElem_cons_succ, List.getElem_cons_zero, List.setIfInBounds_toArray, List.set_cons_zero, List.set_cons_succ, Nat.zero_add, List.nil_append]
          refine wpAnyH_take (i := 12) (v := .int .i64 0) rfl (by kernel_rfl) (by kernel_rfl) (by kernel_rfl) (fun _ _ _ h => h) (Or.inl ⟨by rfl, fun w' hw' => by go_simp⟩) s9 ?_
          try simp only [Act.put, List.getElem_toArray, List.getElem_cons_succ, List.getElem_cons_zero, List.setIfInBounds_toArray, List.set_cons_zero, List.set_cons_succ, Nat.zero_add, List.nil_append]
          refine wpAnyH_done (by kernel_rfl) ?_ _
          have HZB := Lib.hid s9
          clear r3 hbs
          clear s0 s1 s2 s9
          have HT := Lib.hid (HT.out.below HZB.out)
          have HLO := Lib.hid (owns_keep HLO.out (Keep.of_below HZB.out []) (by simp))
          have Q1 := Lib.hid (row_keep Q1.out (Keep.of_below HZB.out []) (by simp))
          have HM := Lib.hid (row_keep HM.out (Keep.of_below HZB.out []) (by simp))
          have BBz := Lib.hid (below_next BB.out HZB.out)
          have o0 := (cell_of_row wz bx 0 _ _ (0, 0) HXR.out).trans (msgZ_is _ _ _ _ _ _ _ _).k; have o1 := (cell_of_row wz bx 1 _ _ (0, 0) HXR.out).trans (msgZ_is _ _ _ _ _ _ _ _).f; have o2 := (cell_of_row wz bx 2 _ _ (0, 0) HXR.out).trans (msgZ_is _ _ _ _ _ _ _ _).t; have o20 := (cell_of_row wz bx 20 _ _ (0, 0) HXR.out).trans (msgZ_is _ _ _ _ _ _ _ _).id; have o45 := (cell_of_row wz bx 45 _ _ (0, 0) HXR.out).trans (msgZ_is _ _ _ _ _ _ _ _).ph; have o46 := (cell_of_row wz bx 46 _ _ (0, 0) HXR.out).trans (msgZ_is _ _ _ _ _ _ _ _).pl; have o47 := (cell_of_row wz bx 47 _ _ (0, 0) HXR.out).trans (msgZ_is _ _ _ _ _ _ _ _).hops
          have m2 := (cell_of_row wz x2 2 _ _ (0, 0) HM.out).trans (msgZ_is _ _ _ _ _ _ _ _).t; have m20 := (cell_of_row wz x2 20 _ _ (0, 0) HM.out).trans (msgZ_is _ _ _ _ _ _ _ _).id; have m47 := (cell_of_row wz x2 47 _ _ (0, 0) HM.out).trans (msgZ_is _ _ _ _ _ _ _ _).hops
          have c0 := cell_of_row wz x1 0 _ _ (0, 0) Q1.out; have c1 := cell_of_row wz x1 1 _ _ (0, 0) Q1.out
          simp only [List.getElem?_toArray, List.getElem?_cons_succ, List.getElem?_cons_zero] at c0 c1
          have EQ := fun w => neq_pos th tl th tl w
          simp only [beq_self_eq_true, Bool.and_self, Bool.not_true] at EQ
          have w3h : IntKind.i64.wrap ((h : Int) + 1) = (h : Int) + 1 := by rw [IntWalk.i64_in _ (by omega)]
          have o48 : wz.cell? ⟨bx, 48, none⟩ = some (.slice (some ⟨g, 0, none⟩) 1 1) := (cell_of_row wz bx 48 _ _ (0, 0) HXR.out).trans rfl
          have g0 := cell_of_row wz g 0 _ _ (0, 0) HGR.out
          simp only [List.getElem?_toArray, List.getElem?_cons_zero] at g0
          obtain rfl : nx = o := hst4 rfl
          go_upto_region 23 with (fail)
          replace o48 := cell_regrown o48; replace g0 := cell_regrown g0; replace m2 := cell_regrown m2
          by_cases ecn : cur = nx
          · have hcost0 := hce rfl
            rw [if_pos ecn] at hcost0
            have hb : ((nx : Int) != (cur : Int)) = false := by rw [ecn]; simp
            refine wp_region_quiet_below (by kernel_rfl) (by kernel_rfl) ?_
            repeat (go_big_quiet_step (fail))
            refine wpQuiet_nil ?_
            intro _ hw'
            obtain ⟨⟨dq, osq⟩, hw''⟩ := hw'
            subst hw''
            have lk := below_regrown wz dq osq
            have HLO := Lib.hid (owns_keep HLO.out (Keep.of_below lk []) (by simp)); have Q1 := Lib.hid (row_keep Q1.out (Keep.of_below lk []) (by simp)); have HGR := Lib.hid (row_keep HGR.out (Keep.of_below lk []) (by simp)); have HXR := Lib.hid (row_keep HXR.out (Keep.of_below lk []) (by simp))
            have BBq := Lib.hid (below_next BBz.out lk)
            clear o0 o1 o2 o20 o45 o46 o47 o48 m2 m20 m47 c0 c1 g0 lk
            generalize grow (redrawn wz dq) osq = wq at *
            have o47 := cell_regrown ((cell_of_row wq bx 47 _ _ (0, 0) HXR.out).trans (msgZ_is _ _ _ _ _ _ _ _).hops)
            have o48 : wq.cell? ⟨bx, 48, none⟩ = some (.slice (some ⟨g, 0, none⟩) 1 1) := (cell_of_row wq bx 48 _ _ (0, 0) HXR.out).trans rfl
            replace o48 := cell_regrown o48
            have c0 := cell_regrown (cell_of_row wq x1 0 _ _ (0, 0) Q1.out); have c1 := cell_regrown (cell_of_row wq x1 1 _ _ (0, 0) Q1.out)
            have g0 := cell_regrown (cell_of_row wq g 0 _ _ (0, 0) HGR.out); have g1 := cell_regrown (cell_of_row wq g 1 _ _ (0, 0) HGR.out); have g2 := cell_regrown (cell_of_row wq g 2 _ _ (0, 0) HGR.out)
            have l0 := cell_regrown (owns_px HLO.out HQ.out (q := 0) (by omega)); have l1 := cell_regrown (owns_px HLO.out HQ.out (q := 1) (by omega)); have l2 := cell_regrown (owns_px HLO.out HQ.out (q := 2) (by omega))
            simp only [List.getElem_toArray, List.getElem?_cons_succ, List.getElem?_cons_zero, List.getElem_cons_succ, List.getElem_cons_zero, Nat.add_zero] at c0 c1 g0 g1 g2 l0 l1 l2
            have CO := fun d os => Calls.regrown_of (owner_any (cap := lc) th tl (grow (redrawn wq d) os) (psrd_own (owns_keep HLO.out (Keep.of_below (below_regrown wq d os) []) (by simp))) HN.out (by omega))
            simp only [← HOW.out] at CO
            replace CO := Lib.hid CO
            have CL := Lib.hid (fun d os => Calls.regrown_of (log_any n (by omega) (grow (redrawn wq d) os)))
            have EP := fun w => eql_peer (nx : Int) qh ql (nx : Int) qh ql w
            simp only [beq_self_eq_true, Bool.and_self] at EP
            have hl4 := logN_le n
            have wl : IntKind.i64.wrap ((logN n : Int) + 1) = (logN n : Int) + 1 := by rw [IntWalk.i64_in _ (by omega)]
            have hle1 : (h : Int) ≤ (logN n : Int) + 1 := by have := HC.out; omega
            have hle2 : decide ((h : Int) ≤ (logN n : Int) + 1) = true := decide_eq_true hle1
            go_upto_region 25 with (fail)
            refine wp_region_quiet_below (by kernel_rfl) (by kernel_rfl) ?_
            repeat (go_big_quiet_step (first | exact CO.out _ _ | exact CL.out _ _))
            refine wpQuiet_nil ?_
            intro _ hw'
            obtain ⟨⟨dq, osq⟩, hw''⟩ := hw'
            subst hw''
            have lk := below_regrown wq dq osq
            clear o47 o48 c0 c1 g0 g1 g2 l0 l1 l2
            generalize grow (redrawn wq dq) osq = wy at *
            go_wp2_with fail
            go_ret
            exact ⟨by simp, below_next BBq.out lk⟩
          · have hcost0 := hce rfl
            rw [if_neg ecn] at hcost0
            have hb : ((nx : Int) != (cur : Int)) = true := bne_iff_ne.2 (by omega)
            refine wp_region_quiet_below (by kernel_rfl) (by kernel_rfl) ?_
            repeat (go_big_quiet_step (fail))
            refine wpQuiet_nil ?_
            intro _ hw'
            obtain ⟨⟨dq, osq⟩, hw''⟩ := hw'
            subst hw''
            have lk := below_regrown wz dq osq
            have HLO := Lib.hid (owns_keep HLO.out (Keep.of_below lk []) (by simp)); have Q1 := Lib.hid (row_keep Q1.out (Keep.of_below lk []) (by simp)); have HGR := Lib.hid (row_keep HGR.out (Keep.of_below lk []) (by simp)); have HXR := Lib.hid (row_keep HXR.out (Keep.of_below lk []) (by simp))
            have BBq := Lib.hid (below_next BBz.out lk)
            clear o0 o1 o2 o20 o45 o46 o47 o48 m2 m20 m47 c0 c1 g0 lk
            generalize grow (redrawn wz dq) osq = wq at *
            have o47 := cell_regrown ((cell_of_row wq bx 47 _ _ (0, 0) HXR.out).trans (msgZ_is _ _ _ _ _ _ _ _).hops)
            have o48 : wq.cell? ⟨bx, 48, none⟩ = some (.slice (some ⟨g, 0, none⟩) 1 1) := (cell_of_row wq bx 48 _ _ (0, 0) HXR.out).trans rfl
            replace o48 := cell_regrown o48
            have c0 := cell_regrown (cell_of_row wq x1 0 _ _ (0, 0) Q1.out); have c1 := cell_regrown (cell_of_row wq x1 1 _ _ (0, 0) Q1.out)
            have g0 := cell_regrown (cell_of_row wq g 0 _ _ (0, 0) HGR.out); have g1 := cell_regrown (cell_of_row wq g 1 _ _ (0, 0) HGR.out); have g2 := cell_regrown (cell_of_row wq g 2 _ _ (0, 0) HGR.out)
            have l0 := cell_regrown (owns_px HLO.out HQ.out (q := 0) (by omega)); have l1 := cell_regrown (owns_px HLO.out HQ.out (q := 1) (by omega)); have l2 := cell_regrown (owns_px HLO.out HQ.out (q := 2) (by omega))
            simp only [List.getElem_toArray, List.getElem?_cons_succ, List.getElem?_cons_zero, List.getElem_cons_succ, List.getElem_cons_zero, Nat.add_zero] at c0 c1 g0 g1 g2 l0 l1 l2
            have CO := fun d os => Calls.regrown_of (owner_any (cap := lc) th tl (grow (redrawn wq d) os) (psrd_own (owns_keep HLO.out (Keep.of_below (below_regrown wq d os) []) (by simp))) HN.out (by omega))
            simp only [← HOW.out] at CO
            replace CO := Lib.hid CO
            have CL := Lib.hid (fun d os => Calls.regrown_of (log_any n (by omega) (grow (redrawn wq d) os)))
            have EP := fun w => eql_peer (nx : Int) qh ql (nx : Int) qh ql w
            simp only [beq_self_eq_true, Bool.and_self] at EP
            have hl4 := logN_le n
            have wl : IntKind.i64.wrap ((logN n : Int) + 1) = (logN n : Int) + 1 := by rw [IntWalk.i64_in _ (by omega)]
            have hle1 : (h : Int) + 1 ≤ (logN n : Int) + 1 := by have := HC.out; omega
            have hle2 : decide ((h : Int) + 1 ≤ (logN n : Int) + 1) = true := decide_eq_true hle1
            go_upto_region 25 with (fail)
            refine wp_region_quiet_below (by kernel_rfl) (by kernel_rfl) ?_
            repeat (go_big_quiet_step (first | exact CO.out _ _ | exact CL.out _ _))
            refine wpQuiet_nil ?_
            intro _ hw'
            obtain ⟨⟨dq, osq⟩, hw''⟩ := hw'
            subst hw''
            have lk := below_regrown wq dq osq
            clear o47 o48 c0 c1 g0 g1 g2 l0 l1 l2
            generalize grow (redrawn wq dq) osq = wy at *
            go_wp2_with fail
            go_ret
            exact ⟨by simp, below_next BBq.out lk⟩
        · skip
          rw [if_pos (by rfl)]
          refine wp_alloc_msg rfl ?_
          have r3 := heap_alloc_new wd (.cells (msgC 0 0 0 (.slice none 0 0)) 66)
          have s1 := below_alloc s0 (.cells (msgC 0 0 0 (.slice none 0 0)) 66)
          have hbs := s0.size
          generalize wd.alloc (.cells (msgC 0 0 0 (.slice none 0 0)) 66) = w2 at *
          obtain ⟨bx, hbx⟩ : ∃ q, q = wd.heap.size := ⟨_, rfl⟩
          rw [← hbx] at r3 hbs ⊢
          clear hbx
          refine hK.out _ _ s1 (fun _ => ?_)
          clear hK K
          try simp only [Act.put, List.getElem_toArray, List.getElem_cons_succ, List.getElem_cons_zero, List.setIfInBounds_toArray, List.set_cons_zero, List.set_cons_succ, Nat.zero_add, List.nil_append]
          refine wpAnyH_ready (rs := [6]) (by kernel_rfl) (by simp) ?_
          refine AllReadyH.cons rfl (fun K hK => ?_) AllReadyH.nil
          rw [if_pos (by rfl)]
          go_simp
          refine (HW.out w2 s1).mono ?_; rintro e w3 ⟨g, rfl, hg, hgw, b2⟩
          have s2 := below_next s1 b2
          have HGR := Lib.hid hg
          clear hg
          have hgx : bx < g := Nat.lt_of_lt_of_le (Array.getElem?_eq_some_iff.1 r3).1 hgw
          have r3 := row_keep r3 (Keep.of_below b2 []) (by simp)
          clear b2
          go_simp
          refine hK.out _ _ s2 (fun _ => ?_)
          clear hK K
          try simp only [Act.put, List.getElem_toArray, List.getElem_cons_succ, List.getElem_cons_zero, List.setIfInBounds_toArray, List.set_cons_zero, List.set_cons_succ, Nat.zero_add, List.nil_append]
          refine wpAnyH_take (i := 7) (v := .tuple #[.agg (msgZ 22 cur fr (1792 + fr) th tl h (.slice (some ⟨g, 0, none⟩) 1 1)), .int .i64 0]) rfl (by kernel_rfl) (by kernel_rfl) (by kernel_rfl) (fun _ _ _ h => h) (Or.inl ⟨by rfl, fun w' hw' => by go_simp⟩) s2 ?_
          try simp only [Act.put, List.getElem_toArray, List.getElem_cons_succ, List.getElem_cons_zero, List.setIfInBounds_toArray, List.set_cons_zero, List.set_cons_succ, Nat.zero_add, List.nil_append]
          refine wpAnyH_take (i := 8) (v := .agg (msgZ 22 cur fr (1792 + fr) th tl h (.slice (some ⟨g, 0, none⟩) 1 1))) rfl (by kernel_rfl) (by kernel_rfl) (by kernel_rfl) (fun _ _ _ h => h) (Or.inl ⟨by rfl, fun w' hw' => by go_simp⟩) s2 ?_
          try simp only [Act.put, List.getElem_toArray, List.getElem_cons_succ, List.getElem_cons_zero, List.setIfInBounds_toArray, List.set_cons_zero, List.set_cons_succ, Nat.zero_add, List.nil_append]
          refine wpAnyH_take (i := 9) (v := .int .i64 0) rfl (by kernel_rfl) (by kernel_rfl) (by kernel_rfl) (fun _ _ _ h => h) (Or.inl ⟨by rfl, fun w' hw' => by go_simp⟩) s2 ?_
          try simp only [Act.put, List.getElem_toArray, List.getElem_cons_succ, List.getElem_cons_zero, List.setIfInBounds_toArray, List.set_cons_zero, List.set_cons_succ, Nat.zero_add, List.nil_append]
          refine wpAnyH_ready (rs := [11]) (by kernel_rfl) (by simp) ?_
          refine AllReadyH.cons rfl (fun K hK => ?_) AllReadyH.nil
          rw [if_pos (by rfl)]
          refine wp_store_row 66 (.tmp 13) (.tmp 58) rfl bx (msgZ 22 cur fr (1792 + fr) th tl h (.slice (some ⟨g, 0, none⟩) 1 1)) rfl rfl 66 (msgC 0 0 0 (.slice none 0 0)) r3 (by rw [msgZ_size]; exact msg_size) rfl (msgZ_one _ _ _ _ _ _ _ _ _ _) ?_
          have s9 : Below wr.heap.size wr (w3.setRow bx (msgZ 22 cur fr (1792 + fr) th tl h (.slice (some ⟨g, 0, none⟩) 1 1))) := s2.trans ((Keep.setRow w3 bx (msgZ 22 cur fr (1792 + fr) th tl h (.slice (some ⟨g, 0, none⟩) 1 1))).below s2.size (by simpa using hbs))
          have HXR := Lib.hid (setRow_heap _ _ _ (msgZ 22 cur fr (1792 + fr) th tl h (.slice (some ⟨g, 0, none⟩) 1 1)) _ _ r3)
          have HGR := Lib.hid (row_keep HGR.out (Keep.setRow w3 bx (msgZ 22 cur fr (1792 + fr) th tl h (.slice (some ⟨g, 0, none⟩) 1 1))) (by simp; omega))
          generalize w3.setRow bx (msgZ 22 cur fr (1792 + fr) th tl h (.slice (some ⟨g, 0, none⟩) 1 1)) = wz at *
          refine hK.out _ _ s9 (fun _ => ?_)
          clear hK K
          try simp only [Act.put, List.getElem_toArray, List.getElem_cons_succ, List.getElem_cons_zero, List.setIfInBounds_toArray, List.set_cons_zero, List.set_cons_succ, Nat.zero_add, List.nil_append]
          refine wpAnyH_take (i := 12) (v := .int .i64 0) rfl (by kernel_rfl) (by kernel_rfl) (by kernel_rfl) (fun _ _ _ h => h) (Or.inl ⟨by rfl, fun w' hw' => by go_simp⟩) s9 ?_
          try simp only [Act.put, List.getElem_toArray, List.getElem_cons_succ, List.getElem_cons_zero, List.setIfInBounds_toArray, List.set_cons_zero, List.set_cons_succ, Nat.zero_add, List.nil_append]
          refine wpAnyH_done (by kernel_rfl) ?_ _
          have HZB := Lib.hid s9
          clear r3 hbs
          clear s0 s1 s2 s9
          have HT := Lib.hid (HT.out.below HZB.out)
          have HLO := Lib.hid (owns_keep HLO.out (Keep.of_below HZB.out []) (by simp))
          have Q1 := Lib.hid (row_keep Q1.out (Keep.of_below HZB.out []) (by simp))
          have HM := Lib.hid (row_keep HM.out (Keep.of_below HZB.out []) (by simp))
          have BBz := Lib.hid (below_next BB.out HZB.out)
          have o0 := (cell_of_row wz bx 0 _ _ (0, 0) HXR.out).trans (msgZ_is _ _ _ _ _ _ _ _).k; have o1 := (cell_of_row wz bx 1 _ _ (0, 0) HXR.out).trans (msgZ_is _ _ _ _ _ _ _ _).f; have o2 := (cell_of_row wz bx 2 _ _ (0, 0) HXR.out).trans (msgZ_is _ _ _ _ _ _ _ _).t; have o20 := (cell_of_row wz bx 20 _ _ (0, 0) HXR.out).trans (msgZ_is _ _ _ _ _ _ _ _).id; have o45 := (cell_of_row wz bx 45 _ _ (0, 0) HXR.out).trans (msgZ_is _ _ _ _ _ _ _ _).ph; have o46 := (cell_of_row wz bx 46 _ _ (0, 0) HXR.out).trans (msgZ_is _ _ _ _ _ _ _ _).pl; have o47 := (cell_of_row wz bx 47 _ _ (0, 0) HXR.out).trans (msgZ_is _ _ _ _ _ _ _ _).hops
          have m2 := (cell_of_row wz x2 2 _ _ (0, 0) HM.out).trans (msgZ_is _ _ _ _ _ _ _ _).t; have m20 := (cell_of_row wz x2 20 _ _ (0, 0) HM.out).trans (msgZ_is _ _ _ _ _ _ _ _).id; have m47 := (cell_of_row wz x2 47 _ _ (0, 0) HM.out).trans (msgZ_is _ _ _ _ _ _ _ _).hops
          have c0 := cell_of_row wz x1 0 _ _ (0, 0) Q1.out; have c1 := cell_of_row wz x1 1 _ _ (0, 0) Q1.out
          simp only [List.getElem?_toArray, List.getElem?_cons_succ, List.getElem?_cons_zero] at c0 c1
          have EQ := fun w => neq_pos th tl th tl w
          simp only [beq_self_eq_true, Bool.and_self, Bool.not_true] at EQ
          have w3h : IntKind.i64.wrap ((h : Int) + 1) = (h : Int) + 1 := by rw [IntWalk.i64_in _ (by omega)]
          have o48 : wz.cell? ⟨bx, 48, none⟩ = some (.slice (some ⟨g, 0, none⟩) 1 1) := (cell_of_row wz bx 48 _ _ (0, 0) HXR.out).trans rfl
          have g0 := cell_of_row wz g 0 _ _ (0, 0) HGR.out
          simp only [List.getElem?_toArray, List.getElem?_cons_zero] at g0
          obtain rfl : nx = o := hst4 rfl
          go_upto_region 23 with (fail)
          replace o48 := cell_regrown o48; replace g0 := cell_regrown g0; replace m2 := cell_regrown m2
          by_cases ecn : cur = nx
          · have hcost0 := hce rfl
            rw [if_pos ecn] at hcost0
            have hb : ((nx : Int) != (cur : Int)) = false := by rw [ecn]; simp
            refine wp_region_quiet_below (by kernel_rfl) (by kernel_rfl) ?_
            repeat (go_big_quiet_step (fail))
            refine wpQuiet_nil ?_
            intro _ hw'
            obtain ⟨⟨dq, osq⟩, hw''⟩ := hw'
            subst hw''
            have lk := below_regrown wz dq osq
            have HLO := Lib.hid (owns_keep HLO.out (Keep.of_below lk []) (by simp)); have Q1 := Lib.hid (row_keep Q1.out (Keep.of_below lk []) (by simp)); have HGR := Lib.hid (row_keep HGR.out (Keep.of_below lk []) (by simp)); have HXR := Lib.hid (row_keep HXR.out (Keep.of_below lk []) (by simp))
            have BBq := Lib.hid (below_next BBz.out lk)
            clear o0 o1 o2 o20 o45 o46 o47 o48 m2 m20 m47 c0 c1 g0 lk
            generalize grow (redrawn wz dq) osq = wq at *
            have o47 := cell_regrown ((cell_of_row wq bx 47 _ _ (0, 0) HXR.out).trans (msgZ_is _ _ _ _ _ _ _ _).hops)
            have o48 : wq.cell? ⟨bx, 48, none⟩ = some (.slice (some ⟨g, 0, none⟩) 1 1) := (cell_of_row wq bx 48 _ _ (0, 0) HXR.out).trans rfl
            replace o48 := cell_regrown o48
            have c0 := cell_regrown (cell_of_row wq x1 0 _ _ (0, 0) Q1.out); have c1 := cell_regrown (cell_of_row wq x1 1 _ _ (0, 0) Q1.out)
            have g0 := cell_regrown (cell_of_row wq g 0 _ _ (0, 0) HGR.out); have g1 := cell_regrown (cell_of_row wq g 1 _ _ (0, 0) HGR.out); have g2 := cell_regrown (cell_of_row wq g 2 _ _ (0, 0) HGR.out)
            have l0 := cell_regrown (owns_px HLO.out HQ.out (q := 0) (by omega)); have l1 := cell_regrown (owns_px HLO.out HQ.out (q := 1) (by omega)); have l2 := cell_regrown (owns_px HLO.out HQ.out (q := 2) (by omega))
            simp only [List.getElem_toArray, List.getElem?_cons_succ, List.getElem?_cons_zero, List.getElem_cons_succ, List.getElem_cons_zero, Nat.add_zero] at c0 c1 g0 g1 g2 l0 l1 l2
            have CO := fun d os => Calls.regrown_of (owner_any (cap := lc) th tl (grow (redrawn wq d) os) (psrd_own (owns_keep HLO.out (Keep.of_below (below_regrown wq d os) []) (by simp))) HN.out (by omega))
            simp only [← HOW.out] at CO
            replace CO := Lib.hid CO
            have CL := Lib.hid (fun d os => Calls.regrown_of (log_any n (by omega) (grow (redrawn wq d) os)))
            have EP := fun w => eql_peer (nx : Int) qh ql (nx : Int) qh ql w
            simp only [beq_self_eq_true, Bool.and_self] at EP
            have hl4 := logN_le n
            have wl : IntKind.i64.wrap ((logN n : Int) + 1) = (logN n : Int) + 1 := by rw [IntWalk.i64_in _ (by omega)]
            have hle1 : (h : Int) ≤ (logN n : Int) + 1 := by have := HC.out; omega
            have hle2 : decide ((h : Int) ≤ (logN n : Int) + 1) = true := decide_eq_true hle1
            go_upto_region 25 with (fail)
            refine wp_region_quiet_below (by kernel_rfl) (by kernel_rfl) ?_
            repeat (go_big_quiet_step (first | exact CO.out _ _ | exact CL.out _ _))
            refine wpQuiet_nil ?_
            intro _ hw'
            obtain ⟨⟨dq, osq⟩, hw''⟩ := hw'
            subst hw''
            have lk := below_regrown wq dq osq
            clear o47 o48 c0 c1 g0 g1 g2 l0 l1 l2
            generalize grow (redrawn wq dq) osq = wy at *
            go_wp2_with fail
            go_ret
            exact ⟨by simp, below_next BBq.out lk⟩
          · have hcost0 := hce rfl
            rw [if_neg ecn] at hcost0
            have hb : ((nx : Int) != (cur : Int)) = true := bne_iff_ne.2 (by omega)
            refine wp_region_quiet_below (by kernel_rfl) (by kernel_rfl) ?_
            repeat (go_big_quiet_step (fail))
            refine wpQuiet_nil ?_
            intro _ hw'
            obtain ⟨⟨dq, osq⟩, hw''⟩ := hw'
            subst hw''
            have lk := below_regrown wz dq osq
            have HLO := Lib.hid (owns_keep HLO.out (Keep.of_below lk []) (by simp)); have Q1 := Lib.hid (row_keep Q1.out (Keep.of_below lk []) (by simp)); have HGR := Lib.hid (row_keep HGR.out (Keep.of_below lk []) (by simp)); have HXR := Lib.hid (row_keep HXR.out (Keep.of_below lk []) (by simp))
            have BBq := Lib.hid (below_next BBz.out lk)
            clear o0 o1 o2 o20 o45 o46 o47 o48 m2 m20 m47 c0 c1 g0 lk
            generalize grow (redrawn wz dq) osq = wq at *
            have o47 := cell_regrown ((cell_of_row wq bx 47 _ _ (0, 0) HXR.out).trans (msgZ_is _ _ _ _ _ _ _ _).hops)
            have o48 : wq.cell? ⟨bx, 48, none⟩ = some (.slice (some ⟨g, 0, none⟩) 1 1) := (cell_of_row wq bx 48 _ _ (0, 0) HXR.out).trans rfl
            replace o48 := cell_regrown o48
            have c0 := cell_regrown (cell_of_row wq x1 0 _ _ (0, 0) Q1.out); have c1 := cell_regrown (cell_of_row wq x1 1 _ _ (0, 0) Q1.out)
            have g0 := cell_regrown (cell_of_row wq g 0 _ _ (0, 0) HGR.out); have g1 := cell_regrown (cell_of_row wq g 1 _ _ (0, 0) HGR.out); have g2 := cell_regrown (cell_of_row wq g 2 _ _ (0, 0) HGR.out)
            have l0 := cell_regrown (owns_px HLO.out HQ.out (q := 0) (by omega)); have l1 := cell_regrown (owns_px HLO.out HQ.out (q := 1) (by omega)); have l2 := cell_regrown (owns_px HLO.out HQ.out (q := 2) (by omega))
            simp only [List.getElem_toArray, List.getElem?_cons_succ, List.getElem?_cons_zero, List.getElem_cons_succ, List.getElem_cons_zero, Nat.add_zero] at c0 c1 g0 g1 g2 l0 l1 l2
            have CO := fun d os => Calls.regrown_of (owner_any (cap := lc) th tl (grow (redrawn wq d) os) (psrd_own (owns_keep HLO.out (Keep.of_below (below_regrown wq d os) []) (by simp))) HN.out (by omega))
            simp only [← HOW.out] at CO
            replace CO := Lib.hid CO
            have CL := Lib.hid (fun d os => Calls.regrown_of (log_any n (by omega) (grow (redrawn wq d) os)))
            have EP := fun w => eql_peer (nx : Int) qh ql (nx : Int) qh ql w
            simp only [beq_self_eq_true, Bool.and_self] at EP
            have hl4 := logN_le n
            have wl : IntKind.i64.wrap ((logN n : Int) + 1) = (logN n : Int) + 1 := by rw [IntWalk.i64_in _ (by omega)]
            have hle1 : (h : Int) + 1 ≤ (logN n : Int) + 1 := by have := HC.out; omega
            have hle2 : decide ((h : Int) + 1 ≤ (logN n : Int) + 1) = true := decide_eq_true hle1
            go_upto_region 25 with (fail)
            refine wp_region_quiet_below (by kernel_rfl) (by kernel_rfl) ?_
            repeat (go_big_quiet_step (first | exact CO.out _ _ | exact CL.out _ _))
            refine wpQuiet_nil ?_
            intro _ hw'
            obtain ⟨⟨dq, osq⟩, hw''⟩ := hw'
            subst hw''
            have lk := below_regrown wq dq osq
            clear o47 o48 c0 c1 g0 g1 g2 l0 l1 l2
            generalize grow (redrawn wq dq) osq = wy at *
            go_wp2_with fail
            go_ret
            exact ⟨by simp, below_next BBq.out lk⟩
end Go.Proofs.Ytokmchkoojeadaa
