/- RouteWalks. -/
import Derived.Test.YtokmchkoojeadaaTt
import Derived.BigQuiet
namespace Go.Proofs.Ytokmchkoojeadaa
open Go.RowKit Go.Sort
set_option linter.unusedVariables false
set_option linter.unusedSimpArgs false
set_option maxRecDepth 100000
theorem neq_peer (n h l n' h' l' : Int) (w : World) : (binOp .neq 26 (peer n h l) (peer n' h' l')).run Try.prog w = .ok (.bool (!(n == n' && (h == h' && l == l')))) w := by
  have hu := Try.underlying26
  have hv := Try.underlying24
  rw [run_neq_struct, run_equalIn_agg w 9999 _ _ _ (by kernel_rfl) (by kernel_rfl)]
  rw [show (Try.prog.fieldsOf 26) = _ from by unfold Program.fieldsOf; rw [hu]]
  go_simp
  by_cases h0 : n = n' <;> by_cases h1 : h = h' <;> by_cases h2 : l = l' <;> simp [h0, h1, h2]
theorem walk_none {n i o : Nat} (h : i < n) (ho : o < n) (hall : ∀ j, j < n → (i + j) % n ≠ o) : False := by
  rcases Nat.lt_or_ge o i with h1 | h1
  · exact hall (o + n - i) (by omega) (by rw [show i + (o + n - i) = o + n by omega, Nat.add_mod_right, Nat.mod_eq_of_lt ho])
  · exact hall (o - i) (by omega) (by rw [show i + (o - i) = o by omega, Nat.mod_eq_of_lt ho])
set_option maxHeartbeats 12800000 in
theorem routeWalks_law (xo : Option Addr) (xn xc : Nat) (hxc : xn ≤ xc) (hxm : xn ≤ 140737488355328) (fh : Int) (wfh : (Lit.int .u64 fh).wf = true) (f_l : Int) (wfl : (Lit.int .u64 f_l).wf = true) (th : Int) (wth : (Lit.int .u64 th).wf = true) (tl : Int) (wtl : (Lit.int .u64 tl).wf = true) (w : World)
    (hr : ∃ R : List (Int × Int), R.length = xn ∧ PosRd w xo R) : Calls Try.prog 5 #[.slice xo xn xc, pos fh f_l, pos th tl] w fun e w' => e = .returned (.bool true) ∧ Below w.heap.size w w' := by
  obtain ⟨R, hR, hrd⟩ := hr
  have HRL := Lib.hid hR
  have AW := Lib.hid awake_any
  have HLE := Lib.hid hxm
  have B0 := below_alloc (Below.refl w.heap.size w) (.cells #[.int .u64 fh, .int .u64 f_l] 24)
  have B1 := below_alloc (Below.refl _ (w.alloc (.cells #[.int .u64 fh, .int .u64 f_l] 24))) (.cells #[.int .u64 th, .int .u64 tl] 24)
  have R0 := row_keep (heap_alloc_new w (.cells #[.int .u64 fh, .int .u64 f_l] 24)) (Keep.of_below B1 []) (by simp)
  have R1 := heap_alloc_new (w.alloc (.cells #[.int .u64 fh, .int .u64 f_l] 24)) (.cells #[.int .u64 th, .int .u64 tl] 24)
  rw [World.size_alloc] at R1
  have BB := Lib.hid (below_next B0 B1)
  have HRD := Lib.hid (hrd.below BB.out)
  have Q0 := Lib.hid R0; have Q1 := Lib.hid R1
  clear B0 B1 R0 R1 hrd hR hxc hxm wfh wfl wth wtl
  go_enter Try.func5, Try.ntmps5
  go_upto_region 1 with (fail)
  generalize (w.alloc (.cells #[.int .u64 fh, .int .u64 f_l] 24)).alloc (.cells #[.int .u64 th, .int .u64 tl] 24) = w1 at *
  obtain ⟨x1, hx1⟩ : ∃ x, x = w.heap.size + 1 := ⟨_, rfl⟩
  rw [← hx1] at Q1 ⊢
  obtain ⟨x0, hx0⟩ : ∃ x, x = w.heap.size := ⟨_, rfl⟩
  rw [← hx0] at Q0 ⊢
  clear hx0 hx1
  go_wp2_with fail
  refine (AW.out w1).mono ?_; rintro e w2 ⟨rfl, b2⟩
  have HRD2 := Lib.hid (HRD.out.below b2)
  have Q0 := Lib.hid (row_keep Q0.out (Keep.of_below b2 []) (by simp)); have Q1 := Lib.hid (row_keep Q1.out (Keep.of_below b2 []) (by simp))
  have BB := Lib.hid (below_next BB.out b2)
  clear b2 AW
  have SO := Lib.hid (sorted_any (cap := xc) w2 HRD2.out HRL.out HLE.out)
  go_wp2_with fail
  refine SO.out.mono ?_; rintro e w3 ⟨lo, lc, rfl, lo3, b3⟩
  have HLO := Lib.hid lo3
  have Q0 := Lib.hid (row_keep Q0.out (Keep.of_below b3 []) (by simp)); have Q1 := Lib.hid (row_keep Q1.out (Keep.of_below b3 []) (by simp))
  have BB := Lib.hid (below_next BB.out b3)
  have HRI := Lib.hid (sortedN_rises R); have HNU := Lib.hid (sortedN_num R)
  obtain ⟨hl1, hl12⟩ := sortedN_len R
  clear b3 SO lo3
  generalize sortedN R = L at *
  obtain ⟨gl, hgl, _⟩ := owns_none HLO.out (by omega)
  subst hgl
  obtain ⟨n, hn⟩ : ∃ n, L.length = n := ⟨_, rfl⟩
  have HN := Lib.hid hn
  have hn1 : 1 ≤ n := by omega
  have hn12 : n ≤ 12 := by omega
  rw [hn]
  have TA := Lib.hid (tables_any (cap := lc) w3 HLO.out hn (by omega) (by omega) HNU.out)
  clear hl1 hl12 hn
  go_wp2_with fail
  refine TA.out.mono ?_; rintro e w4 ⟨tz, tc, rfl, ⟨T, ht⟩, b4⟩
  have HT := Lib.hid ht
  have HLO := Lib.hid (owns_keep HLO.out (Keep.of_below b4 []) (by simp))
  have Q0 := Lib.hid (row_keep Q0.out (Keep.of_below b4 []) (by simp)); have Q1 := Lib.hid (row_keep Q1.out (Keep.of_below b4 []) (by simp))
  have BB := Lib.hid (below_next BB.out b4)
  clear ht b4 TA
  obtain ⟨gt, hgt, _⟩ := owns_none HT.out.row (by omega)
  subst hgt
  go_upto_region 6 with (fail)
  have OF := Lib.hid (owner_any (cap := lc) fh f_l w4 (psrd_own HLO.out) HN.out (by omega))
  have a0 := cell_of_row w4 x0 0 _ _ (0, 0) Q0.out; have a1 := cell_of_row w4 x0 1 _ _ (0, 0) Q0.out
  simp only [List.getElem?_toArray, List.getElem?_cons_succ, List.getElem?_cons_zero] at a0 a1
  go_wp2_with fail
  refine OF.out.mono ?_; rintro e w5 ⟨rfl, b5⟩
  have HT := Lib.hid (HT.out.below b5)
  have HLO := Lib.hid (owns_keep HLO.out (Keep.of_below b5 []) (by simp))
  have Q1 := Lib.hid (row_keep Q1.out (Keep.of_below b5 []) (by simp))
  have BB := Lib.hid (below_next BB.out b5)
  clear b5 OF a0 a1 Q0
  have OT := Lib.hid (owner_any (cap := lc) th tl w5 (psrd_own HLO.out) HN.out (by omega))
  have c0 := cell_of_row w5 x1 0 _ _ (0, 0) Q1.out; have c1 := cell_of_row w5 x1 1 _ _ (0, 0) Q1.out
  simp only [List.getElem?_toArray, List.getElem?_cons_succ, List.getElem?_cons_zero] at c0 c1
  go_wp2_with fail
  refine OT.out.mono ?_; rintro e w6 ⟨rfl, b6⟩
  have HT := Lib.hid (HT.out.below b6)
  have HLO := Lib.hid (owns_keep HLO.out (Keep.of_below b6 []) (by simp))
  have Q1 := Lib.hid (row_keep Q1.out (Keep.of_below b6 []) (by simp))
  have BB := Lib.hid (below_next BB.out b6)
  clear b6 OT c0 c1
  obtain ⟨i0, hi0⟩ : ∃ i, i = ownerN L fh f_l := ⟨_, rfl⟩
  have hi0n : i0 < n := by rw [hi0, ← HN.out]; exact ownerN_lt (by rw [HN.out]; omega) _ _
  rw [← hi0]
  clear hi0
  obtain ⟨o, ho⟩ : ∃ i, i = ownerN L th tl := ⟨_, rfl⟩
  have hon : o < n := by rw [ho, ← HN.out]; exact ownerN_lt (by rw [HN.out]; omega) _ _
  rw [← ho]
  have HOW := Lib.hid ho
  clear ho
  go_wp2_with fail
  go_loopw [11, 13] (fun v11 v13 wr => ∃ m i : Nat, v11 = .int .i64 (i : Int) ∧ v13 = .int .i64 (m : Int) ∧ m ≤ n ∧ Hid (i = (i0 + m) % n) ∧ Hid (∀ j, j < m → (i0 + j) % n ≠ o) ∧ Hid (Below w6.heap.size w6 wr)) (fun _ v13 _ => n - (intOf v13).toNat)
  case atStart => exact ⟨0, i0, rfl, rfl, by omega, Lib.hid (by rw [Nat.add_zero, Nat.mod_eq_of_lt hi0n]), Lib.hid (fun j hj => by omega), Lib.hid (Below.refl _ _)⟩
  case round =>
    obtain ⟨m, i, rfl, rfl, hm, HI, HALL, HBB⟩ := hrel
    have hm0 : (0 : Int) ≤ (m : Int) := by omega
    by_cases hmn : m < n
    · have hmi : (m : Int) < (n : Int) := by omega
      have hin : i < n := by rw [HI.out]; exact Nat.mod_lt _ (by omega)
      have hi0' : (0 : Int) ≤ (i : Int) := by omega
      have hii : (i : Int) < (n : Int) := by omega
      have HT := Lib.hid (HT.out.below HBB.out)
      have HLO := Lib.hid (owns_keep HLO.out (Keep.of_below HBB.out []) (by simp))
      have Q1 := Lib.hid (row_keep Q1.out (Keep.of_below HBB.out []) (by simp))
      have BB := Lib.hid (below_next BB.out HBB.out)
      obtain ⟨⟨b, ao, bcap⟩, ht⟩ : ∃ t, T[i]? = some t := ⟨_, List.getElem?_eq_getElem (by rw [HT.out.len]; exact hin)⟩
      obtain ⟨s, p, c, hs, hp, hc, htb⟩ := HT.out.tbs.tb i _ ht
      have HTI := Lib.hid ht; have HS := Lib.hid hs; have HP := Lib.hid hp; have HC := Lib.hid hc; have HTB := Lib.hid htb
      clear ht hs hp hc htb
      have LD := Lib.hid (show ∀ w', Below wr.heap.size wr w' → w'.cell? ⟨gt, i, none⟩ = some (.pointer (some ⟨b, 0, none⟩)) ∧ w'.cell? ⟨x1, 0, none⟩ = some (.int .u64 th) ∧ w'.cell? ⟨x1, 1, none⟩ = some (.int .u64 tl) from fun w' k' => by
        obtain ⟨g1, e1, _, c1⟩ := owns_c1 (HT.out.below k').row (j := i) (v := .pointer (some ⟨b, 0, none⟩)) (by rw [List.getElem?_map, HTI.out]; rfl)
        cases e1
        have q := row_keep Q1.out (Keep.of_below k' []) (by simp)
        exact ⟨c1, cell_of_row _ _ 0 _ _ (0, 0) q, cell_of_row _ _ 1 _ _ (0, 0) q⟩)
      obtain ⟨pv, bv, hpb⟩ : ∃ pv bv, walkR s p c th tl = (pv, bv) := ⟨_, _, rfl⟩
      have WK := Lib.hid (fun w1 (h : TbW w1 w3.heap.size b ao bcap s p c (fgs L 3 i)) => walk_any th tl w1 h)
      rw [hpb] at WK
      have HBV := Lib.hid (show (pv, bv) = if i = o then (s, true) else (c, false) from by
        rw [← hpb, walkR, own_idx HRI.out HNU.out HS.out HP.out HC.out, ← HOW.out]
        by_cases e : i = o <;> simp [e])
      have EP := Lib.hid (fun (x : Pe) w => eql_peer x.n x.h x.l x.n x.h x.l w)
      have NP := Lib.hid (fun (x : Pe) w => neq_peer x.n x.h x.l x.n x.h x.l w)
      simp only [beq_self_eq_true, Bool.and_self, Bool.not_true] at EP NP
      clear hpb
      go_upto_region 11 with (fail)
      refine wp_region_held_drew (S := fun w' => Below wr.heap.size wr w') (by kernel_rfl) ((Below.refl _ _).drew) (fun s0 => ?_)
      generalize wr.drew = wd at *
      refine wpAnyH_take (i := 0) (v := .slice (some ⟨gt, 0, none⟩) n tc) rfl (by kernel_rfl) (by kernel_rfl) (by kernel_rfl) (fun _ _ _ h => h) (Or.inl ⟨by rfl, fun w' hw' => by go_simp⟩) s0 ?_
      try simp only [Act.put, List.getElem_toArray, List.getElem_cons_succ, List.getElem_cons_zero, List.setIfInBounds_toArray, List.set_cons_zero, List.set_cons_succ, Nat.zero_add, List.nil_append]
      refine wpAnyH_take (i := 1) (v := .int .i64 (i : Int)) rfl (by kernel_rfl) (by kernel_rfl) (by kernel_rfl) (fun _ _ _ h => h) (Or.inl ⟨by rfl, fun w' hw' => by go_simp⟩) s0 ?_
      try simp only [Act.put, List.getElem_toArray, List.getElem_cons_succ, List.getElem_cons_zero, List.setIfInBounds_toArray, List.set_cons_zero, List.set_cons_succ, Nat.zero_add, List.nil_append]
      refine wpAnyH_take (i := 2) (v := .pointer (some ⟨gt, i, none⟩)) rfl (by kernel_rfl) (by kernel_rfl) (by kernel_rfl) (fun _ _ _ h => h) (Or.inl ⟨by rfl, fun w' hw' => by go_simp⟩) s0 ?_
      try simp only [Act.put, List.getElem_toArray, List.getElem_cons_succ, List.getElem_cons_zero, List.setIfInBounds_toArray, List.set_cons_zero, List.set_cons_succ, Nat.zero_add, List.nil_append]
      refine wpAnyH_take (i := 3) (v := .pointer (some ⟨b, 0, none⟩)) rfl (by kernel_rfl) (by kernel_rfl) (by kernel_rfl) (fun _ _ _ h => h) (Or.inl ⟨by rfl, fun w' hw' => by obtain ⟨z0, z1, z2⟩ := LD.out _ hw'; go_simp⟩) s0 ?_
      try simp only [Act.put, List.getElem_toArray, List.getElem_cons_succ, List.getElem_cons_zero, List.setIfInBounds_toArray, List.set_cons_zero, List.set_cons_succ, Nat.zero_add, List.nil_append]
      refine wpAnyH_take (i := 4) (v := pos th tl) rfl (by kernel_rfl) (by kernel_rfl) (by kernel_rfl) (fun _ _ _ h => h) (Or.inl ⟨by rfl, fun w' hw' => by obtain ⟨z0, z1, z2⟩ := LD.out _ hw'; go_simp⟩) s0 ?_
      try simp only [Act.put, List.getElem_toArray, List.getElem_cons_succ, List.getElem_cons_zero, List.setIfInBounds_toArray, List.set_cons_zero, List.set_cons_succ, Nat.zero_add, List.nil_append]
      refine wpAnyH_ready (rs := [5, 9]) (by kernel_rfl) (by simp) ?_
      refine AllReadyH.cons rfl (fun K hK => ?_) (AllReadyH.cons rfl (fun K hK => ?_) AllReadyH.nil)
      · skip
        rw [if_pos (by rfl)]
        go_simp
        refine (WK.out wd (HTB.out.below s0)).mono ?_; rintro e w2 ⟨rfl, b2⟩
        have s1 := below_next s0 b2
  
        clear b2
        go_simp
        refine hK.out _ _ s1 (fun _ => ?_)
        clear hK K
        try simp only [Act.put, List.getElem_toArray, List.getElem_cons_succ, List.getElem_cons_zero, List.setIfInBounds_toArray, List.set_cons_zero, List.set_cons_succ, Nat.zero_add, List.nil_append]
        refine wpAnyH_take (i := 6) (v := .tuple #[pv.v, .bool bv]) rfl (by kernel_rfl) (by kernel_rfl) (by kernel_rfl) (fun _ _ _ h => h) (Or.inl ⟨by rfl, fun w' hw' => by go_simp⟩) s1 ?_
        try simp only [Act.put, List.getElem_toArray, List.getElem_cons_succ, List.getElem_cons_zero, List.setIfInBounds_toArray, List.set_cons_zero, List.set_cons_succ, Nat.zero_add, List.nil_append]
        refine wpAnyH_take (i := 7) (v := pv.v) rfl (by kernel_rfl) (by kernel_rfl) (by kernel_rfl) (fun _ _ _ h => h) (Or.inl ⟨by rfl, fun w' hw' => by go_simp⟩) s1 ?_
        try simp only [Act.put, List.getElem_toArray, List.getElem_cons_succ, List.getElem_cons_zero, List.setIfInBounds_toArray, List.set_cons_zero, List.set_cons_succ, Nat.zero_add, List.nil_append]
        refine wpAnyH_take (i := 8) (v := .bool bv) rfl (by kernel_rfl) (by kernel_rfl) (by kernel_rfl) (fun _ _ _ h => h) (Or.inl ⟨by rfl, fun w' hw' => by go_simp⟩) s1 ?_
        try simp only [Act.put, List.getElem_toArray, List.getElem_cons_succ, List.getElem_cons_zero, List.setIfInBounds_toArray, List.set_cons_zero, List.set_cons_succ, Nat.zero_add, List.nil_append]
        refine wpAnyH_ready (rs := [9]) (by kernel_rfl) (by simp) ?_
        refine AllReadyH.cons rfl (fun K hK => ?_) AllReadyH.nil
        rw [if_pos (by rfl)]
        go_simp
        have r3 := heap_alloc_new w2 (.cells #[.int .i64 0, .int .u64 0, .int .u64 0] 26)
        have s2 := below_alloc s1 (.cells #[.int .i64 0, .int .u64 0, .int .u64 0] 26)
        have hbs := s1.size
        generalize w2.alloc (.cells #[.int .i64 0, .int .u64 0, .int .u64 0] 26) = w3 at *
        obtain ⟨bx, hbx⟩ : ∃ q, q = w2.heap.size := ⟨_, rfl⟩
        rw [← hbx] at r3 hbs ⊢
        clear hbx
        refine hK.out _ _ s2 (fun _ => ?_)
        clear hK K
        try simp only [Act.put, List.getElem_toArray, List.getElem_cons_succ, List.getElem_cons_zero, List.setIfInBounds_toArray, List.set_cons_zero, List.set_cons_succ, Nat.zero_add, List.nil_append]
        refine wpAnyH_ready (rs := [10]) (by kernel_rfl) (by simp) ?_
        refine AllReadyH.cons rfl (fun K hK => ?_) AllReadyH.nil
        rw [if_pos (by rfl)]
        refine wp_store_row 26 (.tmp 14) (.tmp 49) rfl bx #[.int .i64 pv.n, .int .u64 pv.h, .int .u64 pv.l] rfl rfl 26 #[.int .i64 0, .int .u64 0, .int .u64 0] r3 (by kernel_rfl) rfl (by kernel_rfl) ?_
        have s9 : Below wr.heap.size wr (w3.setRow bx #[.int .i64 pv.n, .int .u64 pv.h, .int .u64 pv.l]) := s2.trans ((Keep.setRow w3 bx #[.int .i64 pv.n, .int .u64 pv.h, .int .u64 pv.l]).below s2.size (by simpa using hbs))
        have HXR := Lib.hid (setRow_heap _ _ _ #[.int .i64 pv.n, .int .u64 pv.h, .int .u64 pv.l] _ _ r3)
        generalize w3.setRow bx #[.int .i64 pv.n, .int .u64 pv.h, .int .u64 pv.l] = wz at *
        refine hK.out _ _ s9 (fun _ => ?_)
        clear hK K
        try simp only [Act.put, List.getElem_toArray, List.getElem_cons_succ, List.getElem_cons_zero, List.setIfInBounds_toArray, List.set_cons_zero, List.set_cons_succ, Nat.zero_add, List.nil_append]
        refine wpAnyH_take (i := 11) (v := .bool bv) rfl (by kernel_rfl) (by kernel_rfl) (by kernel_rfl) (fun _ _ _ h => h) (Or.inl ⟨by rfl, fun w' hw' => by go_simp⟩) s9 ?_
        try simp only [Act.put, List.getElem_toArray, List.getElem_cons_succ, List.getElem_cons_zero, List.setIfInBounds_toArray, List.set_cons_zero, List.set_cons_succ, Nat.zero_add, List.nil_append]
        refine wpAnyH_done (by kernel_rfl) ?_ _
        have HZB := Lib.hid s9
        clear r3 hbs
        clear s0 s1 s2 s9
        have HLO := Lib.hid (owns_keep HLO.out (Keep.of_below HZB.out []) (by simp))
        have BBz := Lib.hid (below_next BB.out HZB.out)
        have z0 := cell_regrown (cell_of_row wz bx 0 _ _ (0, 0) HXR.out); have z1 := cell_regrown (cell_of_row wz bx 1 _ _ (0, 0) HXR.out); have z2 := cell_regrown (cell_of_row wz bx 2 _ _ (0, 0) HXR.out)
        simp only [List.getElem_toArray, List.getElem_cons_succ, List.getElem_cons_zero] at z0 z1 z2
        by_cases io : i = o
        · obtain ⟨rfl, rfl⟩ : bv = true ∧ pv = s := by have := HBV.out; rw [if_pos io] at this; exact ⟨(congrArg Prod.snd this), (congrArg Prod.fst this)⟩
          subst io
          have d0 := cell_regrown (owns_px HLO.out HS.out (q := 0) (by omega)); have d1 := cell_regrown (owns_px HLO.out HS.out (q := 1) (by omega)); have d2 := cell_regrown (owns_px HLO.out HS.out (q := 2) (by omega))
          simp only [List.getElem?_cons_succ, List.getElem?_cons_zero, Nat.add_zero] at d0 d1 d2
          have EQ := EP.out pv
          go_upto_region 13 with (fail)
          refine wp_region_quiet_below (by kernel_rfl) (by kernel_rfl) ?_
          repeat (go_big_quiet_step (fail))
          refine wpQuiet_nil ?_
          intro _ hw'
          obtain ⟨⟨dq, osq⟩, hw''⟩ := hw'
          subst hw''
          have lk := below_regrown wz dq osq
          clear z0 z1 z2 d0 d1 d2 EQ
          generalize grow (redrawn wz dq) osq = wq at *
          go_wp2_with fail
          go_ret
          exact ⟨by simp, below_next BBz.out lk⟩
        · have hio : decide ((i : Int) = (o : Int)) = false := decide_eq_false (by omega)
          have hio3 : ((i : Int) == (o : Int)) = false := beq_eq_false_iff_ne.2 (by omega)
          obtain ⟨rfl, rfl⟩ : bv = false ∧ pv = c := by have := HBV.out; rw [if_neg io] at this; exact ⟨(congrArg Prod.snd this), (congrArg Prod.fst this)⟩
          have d0 := cell_regrown (owns_px HLO.out HC.out (q := 0) (by omega)); have d1 := cell_regrown (owns_px HLO.out HC.out (q := 1) (by omega)); have d2 := cell_regrown (owns_px HLO.out HC.out (q := 2) (by omega))
          simp only [List.getElem?_cons_succ, List.getElem?_cons_zero, Nat.add_zero] at d0 d1 d2
          have EQ := NP.out pv
          obtain ⟨ic, hic⟩ : ∃ q, q = (i + 1) % n := ⟨_, rfl⟩
          have HIC := Lib.hid hic
          rw [HN.out, ← hic] at d0 d1 d2
          have hicl : ic < n := by rw [hic]; exact Nat.mod_lt _ (by omega)
          have hcm : Int.tmod ((i : Int) + 1) (n : Int) = (ic : Int) := by
            rw [Int.tmod_eq_emod_of_nonneg (by omega), hic, show (i : Int) + 1 = ((i + 1 : Nat) : Int) by omega]; rfl
          have w3 : IntKind.i64.wrap ((i : Int) + 1) = (i : Int) + 1 := by rw [IntWalk.i64_in _ (by omega)]
          have w5 : IntKind.i64.wrap (ic : Int) = (ic : Int) := by rw [IntWalk.i64_in _ (by omega)]
          have hic0 : (0 : Int) ≤ (ic : Int) := by omega
          have hicn : (ic : Int) < (n : Int) := by omega
          have hn0 : ¬ (n : Int) = 0 := by omega
          clear hic
          go_upto_region 14 with (fail)
          refine wp_region_quiet_below (by kernel_rfl) (by kernel_rfl) ?_
          repeat (go_big_quiet_step (fail))
          refine wpQuiet_nil ?_
          intro _ hw'
          obtain ⟨⟨dq, osq⟩, hw''⟩ := hw'
          subst hw''
          have lk := below_regrown wz dq osq
          clear z0 z1 z2 d0 d1 d2 EQ
          generalize grow (redrawn wz dq) osq = wq at *
          go_wp2_with fail
          go_roundw
          case rel => exact ⟨m + 1, ic, by go_num, by go_num, by omega, Lib.hid (by rw [HIC.out, HI.out, Nat.mod_add_mod]; congr 1), Lib.hid (fun j hj => by
            rcases Nat.lt_or_ge j m with h | h
            · exact HALL.out j h
            · obtain rfl : j = m := by omega
              rw [← HI.out]; exact io), Lib.hid (below_next (below_next HBB.out HZB.out) lk)⟩
          case measure => simp [intOf]; omega
      · skip
        rw [if_pos (by rfl)]
        go_simp
        have r3 := heap_alloc_new wd (.cells #[.int .i64 0, .int .u64 0, .int .u64 0] 26)
        have s1 := below_alloc s0 (.cells #[.int .i64 0, .int .u64 0, .int .u64 0] 26)
        have hbs := s0.size
        generalize wd.alloc (.cells #[.int .i64 0, .int .u64 0, .int .u64 0] 26) = w2 at *
        obtain ⟨bx, hbx⟩ : ∃ q, q = wd.heap.size := ⟨_, rfl⟩
        rw [← hbx] at r3 hbs ⊢
        clear hbx
        refine hK.out _ _ s1 (fun _ => ?_)
        clear hK K
        try simp only [Act.put, List.getElem_toArray, List.getElem_cons_succ, List.getElem_cons_zero, List.setIfInBounds_toArray, List.set_cons_zero, List.set_cons_succ, Nat.zero_add, List.nil_append]
        refine wpAnyH_ready (rs := [5]) (by kernel_rfl) (by simp) ?_
        refine AllReadyH.cons rfl (fun K hK => ?_) AllReadyH.nil
        rw [if_pos (by rfl)]
        go_simp
        refine (WK.out w2 (HTB.out.below s1)).mono ?_; rintro e w3 ⟨rfl, b2⟩
        have s2 := below_next s1 b2
        have r3 := row_keep r3 (Keep.of_below b2 []) (by simp)
        clear b2
        go_simp
        refine hK.out _ _ s2 (fun _ => ?_)
        clear hK K
        try simp only [Act.put, List.getElem_toArray, List.getElem_cons_succ, List.getElem_cons_zero, List.setIfInBounds_toArray, List.set_cons_zero, List.set_cons_succ, Nat.zero_add, List.nil_append]
        refine wpAnyH_take (i := 6) (v := .tuple #[pv.v, .bool bv]) rfl (by kernel_rfl) (by kernel_rfl) (by kernel_rfl) (fun _ _ _ h => h) (Or.inl ⟨by rfl, fun w' hw' => by go_simp⟩) s2 ?_
        try simp only [Act.put, List.getElem_toArray, List.getElem_cons_succ, List.getElem_cons_zero, List.setIfInBounds_toArray, List.set_cons_zero, List.set_cons_succ, Nat.zero_add, List.nil_append]
        refine wpAnyH_take (i := 7) (v := pv.v) rfl (by kernel_rfl) (by kernel_rfl) (by kernel_rfl) (fun _ _ _ h => h) (Or.inl ⟨by rfl, fun w' hw' => by go_simp⟩) s2 ?_
        try simp only [Act.put, List.getElem_toArray, List.getElem_cons_succ, List.getElem_cons_zero, List.setIfInBounds_toArray, List.set_cons_zero, List.set_cons_succ, Nat.zero_add, List.nil_append]
        refine wpAnyH_take (i := 8) (v := .bool bv) rfl (by kernel_rfl) (by kernel_rfl) (by kernel_rfl) (fun _ _ _ h => h) (Or.inl ⟨by rfl, fun w' hw' => by go_simp⟩) s2 ?_
        try simp only [Act.put, List.getElem_toArray, List.getElem_cons_succ, List.getElem_cons_zero, List.setIfInBounds_toArray, List.set_cons_zero, List.set_cons_succ, Nat.zero_add, List.nil_append]
        refine wpAnyH_ready (rs := [10]) (by kernel_rfl) (by simp) ?_
        refine AllReadyH.cons rfl (fun K hK => ?_) AllReadyH.nil
        rw [if_pos (by rfl)]
        refine wp_store_row 26 (.tmp 14) (.tmp 49) rfl bx #[.int .i64 pv.n, .int .u64 pv.h, .int .u64 pv.l] rfl rfl 26 #[.int .i64 0, .int .u64 0, .int .u64 0] r3 (by kernel_rfl) rfl (by kernel_rfl) ?_
        have s9 : Below wr.heap.size wr (w3.setRow bx #[.int .i64 pv.n, .int .u64 pv.h, .int .u64 pv.l]) := s2.trans ((Keep.setRow w3 bx #[.int .i64 pv.n, .int .u64 pv.h, .int .u64 pv.l]).below s2.size (by simpa using hbs))
        have HXR := Lib.hid (setRow_heap _ _ _ #[.int .i64 pv.n, .int .u64 pv.h, .int .u64 pv.l] _ _ r3)
        generalize w3.setRow bx #[.int .i64 pv.n, .int .u64 pv.h, .int .u64 pv.l] = wz at *
        refine hK.out _ _ s9 (fun _ => ?_)
        clear hK K
        try simp only [Act.put, List.getElem_toArray, List.getElem_cons_succ, List.getElem_cons_zero, List.setIfInBounds_toArray, List.set_cons_zero, List.set_cons_succ, Nat.zero_add, List.nil_append]
        refine wpAnyH_take (i := 11) (v := .bool bv) rfl (by kernel_rfl) (by kernel_rfl) (by kernel_rfl) (fun _ _ _ h => h) (Or.inl ⟨by rfl, fun w' hw' => by go_simp⟩) s9 ?_
        try simp only [Act.put, List.getElem_toArray, List.getElem_cons_succ, List.getElem_cons_zero, List.setIfInBounds_toArray, List.set_cons_zero, List.set_cons_succ, Nat.zero_add, List.nil_append]
        refine wpAnyH_done (by kernel_rfl) ?_ _
        have HZB := Lib.hid s9
        clear r3 hbs
        clear s0 s1 s2 s9
        have HLO := Lib.hid (owns_keep HLO.out (Keep.of_below HZB.out []) (by simp))
        have BBz := Lib.hid (below_next BB.out HZB.out)
        have z0 := cell_regrown (cell_of_row wz bx 0 _ _ (0, 0) HXR.out); have z1 := cell_regrown (cell_of_row wz bx 1 _ _ (0, 0) HXR.out); have z2 := cell_regrown (cell_of_row wz bx 2 _ _ (0, 0) HXR.out)
        simp only [List.getElem_toArray, List.getElem_cons_succ, List.getElem_cons_zero] at z0 z1 z2
        by_cases io : i = o
        · obtain ⟨rfl, rfl⟩ : bv = true ∧ pv = s := by have := HBV.out; rw [if_pos io] at this; exact ⟨(congrArg Prod.snd this), (congrArg Prod.fst this)⟩
          subst io
          have d0 := cell_regrown (owns_px HLO.out HS.out (q := 0) (by omega)); have d1 := cell_regrown (owns_px HLO.out HS.out (q := 1) (by omega)); have d2 := cell_regrown (owns_px HLO.out HS.out (q := 2) (by omega))
          simp only [List.getElem?_cons_succ, List.getElem?_cons_zero, Nat.add_zero] at d0 d1 d2
          have EQ := EP.out pv
          go_upto_region 13 with (fail)
          refine wp_region_quiet_below (by kernel_rfl) (by kernel_rfl) ?_
          repeat (go_big_quiet_step (fail))
          refine wpQuiet_nil ?_
          intro _ hw'
          obtain ⟨⟨dq, osq⟩, hw''⟩ := hw'
          subst hw''
          have lk := below_regrown wz dq osq
          clear z0 z1 z2 d0 d1 d2 EQ
          generalize grow (redrawn wz dq) osq = wq at *
          go_wp2_with fail
          go_ret
          exact ⟨by simp, below_next BBz.out lk⟩
        · have hio : decide ((i : Int) = (o : Int)) = false := decide_eq_false (by omega)
          have hio3 : ((i : Int) == (o : Int)) = false := beq_eq_false_iff_ne.2 (by omega)
          obtain ⟨rfl, rfl⟩ : bv = false ∧ pv = c := by have := HBV.out; rw [if_neg io] at this; exact ⟨(congrArg Prod.snd this), (congrArg Prod.fst this)⟩
          have d0 := cell_regrown (owns_px HLO.out HC.out (q := 0) (by omega)); have d1 := cell_regrown (owns_px HLO.out HC.out (q := 1) (by omega)); have d2 := cell_regrown (owns_px HLO.out HC.out (q := 2) (by omega))
          simp only [List.getElem?_cons_succ, List.getElem?_cons_zero, Nat.add_zero] at d0 d1 d2
          have EQ := NP.out pv
          obtain ⟨ic, hic⟩ : ∃ q, q = (i + 1) % n := ⟨_, rfl⟩
          have HIC := Lib.hid hic
          rw [HN.out, ← hic] at d0 d1 d2
          have hicl : ic < n := by rw [hic]; exact Nat.mod_lt _ (by omega)
          have hcm : Int.tmod ((i : Int) + 1) (n : Int) = (ic : Int) := by
            rw [Int.tmod_eq_emod_of_nonneg (by omega), hic, show (i : Int) + 1 = ((i + 1 : Nat) : Int) by omega]; rfl
          have w3 : IntKind.i64.wrap ((i : Int) + 1) = (i : Int) + 1 := by rw [IntWalk.i64_in _ (by omega)]
          have w5 : IntKind.i64.wrap (ic : Int) = (ic : Int) := by rw [IntWalk.i64_in _ (by omega)]
          have hic0 : (0 : Int) ≤ (ic : Int) := by omega
          have hicn : (ic : Int) < (n : Int) := by omega
          have hn0 : ¬ (n : Int) = 0 := by omega
          clear hic
          go_upto_region 14 with (fail)
          refine wp_region_quiet_below (by kernel_rfl) (by kernel_rfl) ?_
          repeat (go_big_quiet_step (fail))
          refine wpQuiet_nil ?_
          intro _ hw'
          obtain ⟨⟨dq, osq⟩, hw''⟩ := hw'
          subst hw''
          have lk := below_regrown wz dq osq
          clear z0 z1 z2 d0 d1 d2 EQ
          generalize grow (redrawn wz dq) osq = wq at *
          go_wp2_with fail
          go_roundw
          case rel => exact ⟨m + 1, ic, by go_num, by go_num, by omega, Lib.hid (by rw [HIC.out, HI.out, Nat.mod_add_mod]; congr 1), Lib.hid (fun j hj => by
            rcases Nat.lt_or_ge j m with h | h
            · exact HALL.out j h
            · obtain rfl : j = m := by omega
              rw [← HI.out]; exact io), Lib.hid (below_next (below_next HBB.out HZB.out) lk)⟩
          case measure => simp [intOf]; omega
    · have hmi : ¬ (m : Int) < (n : Int) := by omega
      exact (walk_none hi0n hon (fun j hj => HALL.out j (by omega))).elim
end Go.Proofs.Ytokmchkoojeadaa
