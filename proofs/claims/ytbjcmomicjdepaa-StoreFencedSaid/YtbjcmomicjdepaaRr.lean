/- The document's Right. -/
import Derived.Test.YtbjcmomicjdepaaAl
namespace Go.Proofs.Ytbjcmomicjdepaa
open Go.RowKit Go.Sort
set_option linter.unusedVariables false
set_option linter.unusedSimpArgs false
set_option linter.unusedSectionVars false
set_option maxRecDepth 100000
set_option maxHeartbeats 400000 in
theorem rmaykey_any (s : ByteArray) (hs : s.size ≤ maxLen) (w : World) :
    Calls Try.prog 67 #[.string s] w fun e w' => e = .returned (.bool (decide (1 ≤ s.size ∧ s.size ≤ 32))) ∧ w = w' := by
  unfold maxLen at hs
  go_enter Try.func67, Try.ntmps67
  go_wp2_with fail
  all_goals
    go_ret
    refine ⟨?_, rfl⟩
    refine ret_bool ?_
    rw [Bool.eq_iff_iff]
    simp
    try omega
set_option maxHeartbeats 400000 in
theorem rmayvalue_any (s : ByteArray) (hs : s.size ≤ maxLen) (w : World) :
    Calls Try.prog 68 #[.string s] w fun e w' => e = .returned (.bool (decide ((s.size : Int) ≤ 64))) ∧ w = w' := by
  unfold maxLen at hs
  go_enter Try.func68, Try.ntmps68
  go_wp2_with fail
  go_ret
  exact ⟨rfl, rfl⟩
set_option maxHeartbeats 400000 in
theorem rbucket_any (h l : Int) (h0 : 0 ≤ h) (h1 : h < 18446744073709551616) (w : World) :
    Calls Try.prog 69 #[pos h l] w fun e w' => e = .returned (.int .i64 (h / 288230376151711744)) ∧ Below w.heap.size w w' := by
  go_enter Try.func69, Try.ntmps69
  go_wp2_with fail
  go_ret
  exact ⟨rfl, (Below.refl _ _).alloc (Nat.le_refl _) _⟩
set_option maxHeartbeats 400000 in
theorem rof_any (s : ByteArray) (hs : s.size ≤ maxLen) (w : World) :
    Calls Try.prog 70 #[.string s] w fun e w' => e = .returned (pos (word s 0) (word s 8)) ∧ Below w.heap.size w w' := by
  unfold maxLen at hs
  go_enter Try.func70, Try.ntmps70
  go_wp2
  go_loopw [4, 5] (fun i _ wr => ∃ k : Nat, k ≤ 16 ∧ i = .int .i64 k ∧ wr = (w.alloc (.cells #[.int .u64 0, .int .u64 0] 115)).alloc (.cells #[.int .u64 (wordTo s 0 (min k 8) : Nat), .int .u64 (wordTo s 8 (k - 8) : Nat)] 115)) (fun i _ _ => 16 - (intOf i).toNat)
  case atStart => exact ⟨0, by omega, rfl, rfl⟩
  case round =>
    obtain ⟨k, hk, rfl, rfl⟩ := hrel
    by_cases h16 : k < 16
    · by_cases h8 : k < 8
      · have e1 : min k 8 = k := by omega
        have e2 : k - 8 = 0 := by omega
        have e3 : min (k + 1) 8 = k + 1 := by omega
        have e4 : k + 1 - 8 = 0 := by omega
        rw [e1, e2]
        have s0 := wordTo_small s 0 k h8
        by_cases hin : k < s.size
        · have HW := Lib.hid (word_in2 s 0 k k h8 (by omega) hin)
          have E3 := Lib.hid e3
          have E4 := Lib.hid e4
          clear e1 e2 e3 e4
          simp only [show wordTo s 8 0 = 0 from rfl]
          go_wp2
          go_roundw
          case rel => exact ⟨k + 1, by omega, by go_num, by rw [HW.out, E3.out, E4.out]; rfl⟩
          case measure => simp [intOf]; omega
        · have HW := Lib.hid (word_out2 s 0 k (by omega))
          have E3 := Lib.hid e3
          have E4 := Lib.hid e4
          clear e1 e2 e3 e4
          simp only [show wordTo s 8 0 = 0 from rfl]
          go_wp2
          go_roundw
          case rel => exact ⟨k + 1, by omega, by go_num, by rw [HW.out, E3.out, E4.out]; rfl⟩
          case measure => simp [intOf]; omega
      · obtain ⟨j, rfl⟩ : ∃ j, k = 8 + j := ⟨k - 8, by omega⟩
        have e1 : min (8 + j) 8 = 8 := by omega
        have e2 : 8 + j - 8 = j := by omega
        have e3 : min (8 + j + 1) 8 = 8 := by omega
        have e4 : 8 + j + 1 - 8 = j + 1 := by omega
        rw [e1, e2]
        have s0 := wordTo_small s 8 j (by omega)
        by_cases hin : 8 + j < s.size
        · have HW := Lib.hid (word_in2 s 8 j (8 + j) (by omega) rfl hin)
          have E3 := Lib.hid e3
          have E4 := Lib.hid e4
          clear e1 e2 e3 e4
          go_wp2
          go_roundw
          case rel => exact ⟨8 + j + 1, by omega, by go_num, by rw [HW.out, E3.out, E4.out]⟩
          case measure => simp [intOf]; omega
        · have HW := Lib.hid (word_out2 s 8 j (by omega))
          have E3 := Lib.hid e3
          have E4 := Lib.hid e4
          clear e1 e2 e3 e4
          go_wp2
          go_roundw
          case rel => exact ⟨8 + j + 1, by omega, by go_num, by rw [HW.out, E3.out, E4.out]⟩
          case measure => simp [intOf]; omega
    · obtain rfl : k = 16 := by omega
      go_wp2
      exact bodyPost_ret (v := pos (word s 0) (word s 8)) (by simp [results, Try.results70, go_sem, word]) rfl ⟨rfl, (Below.refl _ _).alloc (Nat.le_refl _) _ |>.alloc (by simp) _⟩



theorem rmk_any (s : ByteArray) (hs : s.size ≤ maxLen) : Ret 67 #[.string s] (.returned (.bool (mk s))) := fun w => same_below (rmaykey_any s hs w)
theorem rmv_any (s : ByteArray) (hs : s.size ≤ maxLen) : Ret 68 #[.string s] (.returned (.bool (mv s))) := fun w => same_below (rmayvalue_any s hs w)
theorem rof_ret (s : ByteArray) (hs : s.size ≤ maxLen) : Ret 70 #[.string s] (.returned (pos (word s 0) (word s 8))) := fun w => rof_any s hs w
theorem rbk_ret (s : ByteArray) : Ret 69 #[pos (word s 0) (word s 8)] (.returned (.int .i64 (kb s))) := fun w => rbucket_any _ _ (word_nonneg s 0) (word_lt s 0) w
section
variable {s : Sd} {es : List En}
set_option maxHeartbeats 8000000 in
theorem rentries_any (b : Int) (w : World) (h : EsR w s es) : Calls Try.prog 36 #[.int .i64 b, .slice s.ao es.length s.cap] w fun e w' => e = .returned (.bool (areB b es)) ∧ Below w.heap.size w w' := by
  have H := Lib.hid h
  obtain ⟨n, hn⟩ : ∃ n, es.length = n := ⟨_, rfl⟩
  have hmx : n ≤ maxLen := by rw [← hn]; exact h.len
  have hmi : (n : Int) ≤ 9223372036854775807 := by unfold maxLen at hmx; omega
  have HN := Lib.hid hn
  obtain ⟨ao, cap⟩ := s
  simp only
  clear h
  rw [hn]
  clear hn hmx
  by_cases h8 : n ≤ 8
  · have h8i : (n : Int) ≤ 8 := by omega
    go_enter Try.func36, Try.ntmps36
    go_wp2_with fail
    go_loopw [5] (fun v5 wr => ∃ k : Nat, v5 = .int .i64 (k : Int) ∧ k ≤ n ∧ Hid (∀ j, j < k → stE b es j = true) ∧ Hid (Below w.heap.size w wr)) (fun v5 _ => n - (intOf v5).toNat)
    case atStart => exact ⟨0, rfl, Nat.zero_le _, Lib.hid (fun j hj => by omega), Lib.hid (Below.refl _ _)⟩
    case round =>
      obtain ⟨k, rfl, hk, HALL, B⟩ := hrel
      by_cases hkn : k < n
      · obtain ⟨e, he⟩ : ∃ e, es[k]? = some e := ⟨_, List.getElem?_eq_getElem (by rw [HN.out]; exact hkn)⟩
        obtain ⟨g, o, rfl, hg, a0, a1⟩ := (H.out.below B.out).cells he
        have hki : (k : Int) < (n : Int) := by omega
        have hk0 : (0 : Int) ≤ (k : Int) := by omega
        have hsz := H.out.sz e (List.mem_of_getElem? he)
        have C1 := Lib.hid (rmk_any e.k hsz.1)
        have C2 := Lib.hid (rmv_any e.v hsz.2)
        have C3 := Lib.hid (rof_ret e.k hsz.1)
        have C4 := Lib.hid (rbk_ret e.k)
        have HE := Lib.hid he
        have NO := Lib.hid (show stE b es k = false → areB b es = false from fun hf => by
          unfold areB
          rw [Bool.and_eq_false_iff]; right
          rw [List.all_eq_false]
          exact ⟨k, List.mem_range.2 (by rw [HN.out]; exact hkn), by rw [hf]; simp⟩)
        have HST := Lib.hid (show stE b es k = (okE b e && prevE es e k) from by unfold stE; rw [he])
        have HSTEP := Lib.hid (fun (w9 : World) (h9 : Below w.heap.size w w9) (i : Nat) (hi : k = i + 1) => (H.out.below h9).cells (j := i) (e := es[i]'(by have := HN.out; omega)) (List.getElem?_eq_getElem _))
        obtain ⟨h1, e1⟩ : ∃ x, mk e.k = x := ⟨_, rfl⟩
        obtain ⟨h2, e2⟩ : ∃ x, mv e.v = x := ⟨_, rfl⟩
        rw [e1] at C1
        rw [e2] at C2
        have E1 := Lib.hid e1; have E2 := Lib.hid e2
        clear he hsz e1 e2
        go_wp2_with fail
        refine (C1.out _).mono ?_; rintro e1 w2 ⟨rfl, b2⟩
        have B2 := Lib.hid (below_next B.out b2)
        replace a0 := (b2.cell (p := ⟨g, o + k * 2, none⟩) hg).trans a0
        replace a1 := (b2.cell (p := ⟨g, o + k * 2 + 1, none⟩) hg).trans a1
        have hg2 := Nat.lt_of_lt_of_le hg b2.size
        clear b2 hg
        go_wp2_with fail
        refine (C2.out _).mono ?_; rintro e1 w3 ⟨rfl, b3⟩
        have B3 := Lib.hid (below_next B2.out b3)
        replace a0 := (b3.cell (p := ⟨g, o + k * 2, none⟩) hg2).trans a0
        clear b3 a1 hg2
        go_upto_region 8 with (fail)
        cases h1 with
        | false =>
          replace a0 := cell_regrown a0
          refine wp_region_quiet_below (by kernel_rfl) (by kernel_rfl) ?_
          repeat (go_big_quiet_step (first | exact C3.out.re _ _ _ | exact C4.out.re _ _ _))
          refine wpQuiet_nil ?_
          intro _ hw'
          obtain ⟨⟨dq, osq⟩, hw''⟩ := hw'
          subst hw''
          have lk := below_regrown w3 dq osq
          generalize grow (redrawn w3 dq) osq = w4 at *
          clear a0
          go_wp2_with fail
          go_ret
          exact ⟨ret_bool (NO.out (HST.out.trans (by unfold okE; rw [E1.out]; rfl))).symm, below_next B3.out lk⟩
        | true =>
          cases h2 with
          | false =>
            replace a0 := cell_regrown a0
            refine wp_region_quiet_below (by kernel_rfl) (by kernel_rfl) ?_
            repeat (go_big_quiet_step (first | exact C3.out.re _ _ _ | exact C4.out.re _ _ _))
            refine wpQuiet_nil ?_
            intro _ hw'
            obtain ⟨⟨dq, osq⟩, hw''⟩ := hw'
            subst hw''
            have lk := below_regrown w3 dq osq
            generalize grow (redrawn w3 dq) osq = w4 at *
            clear a0
            go_wp2_with fail
            go_ret
            exact ⟨ret_bool (NO.out (HST.out.trans (by unfold okE; rw [E1.out, E2.out]; rfl))).symm, below_next B3.out lk⟩
          | true =>
            by_cases h3 : kb e.k = b
            · have h3b : (kb e.k != b) = false := by simp [h3]
              have HO := Lib.hid (show okE b e = true from by unfold okE; rw [E1.out, E2.out, h3]; simp)
              clear h3
              obtain rfl | ⟨m, rfl⟩ : k = 0 ∨ ∃ m, k = m + 1 := by cases k with | zero => exact .inl rfl | succ m => exact .inr ⟨m, rfl⟩
              · rw [show o + 0 * 2 = o by omega] at a0
                replace a0 := cell_regrown a0
                refine wp_region_quiet_below (by kernel_rfl) (by kernel_rfl) ?_
                repeat (go_big_quiet_step (first | exact C3.out.re _ _ _ | exact C4.out.re _ _ _))
                refine wpQuiet_nil ?_
                intro _ hw'
                obtain ⟨⟨dq, osq⟩, hw''⟩ := hw'
                subst hw''
                have lk := below_regrown w3 dq osq
                generalize grow (redrawn w3 dq) osq = w4 at *
                clear a0
                go_wp2_with fail
                go_roundw
                case rel => exact ⟨1, by go_num, by omega, Lib.hid (fun j hj => by
                  obtain rfl : j = 0 := by omega
                  rw [HST.out, HO.out]; rfl), Lib.hid (below_next B3.out lk)⟩
                case measure => simp [intOf]; omega
              · obtain ⟨g2, o2, e2, hg2, d0, d1⟩ := HSTEP.out w3 B3.out m rfl
                simp only [Option.some.injEq, Addr.mk.injEq, and_true] at e2
                obtain ⟨rfl, rfl⟩ := e2
                have he1 : (((m + 1 : Nat) : Int) - 1) = (m : Int) := by omega
                have hm0 : (0 : Int) ≤ (m : Int) := by omega
                have hmn : (m : Int) < (n : Int) := by omega
                have hpr : prevE es e (m + 1) = !gte (es[m]'(by have := HN.out; omega)).k e.k := by
                  show (match es[m]? with | some d => !gte d.k e.k | none => true) = _
                  rw [List.getElem?_eq_getElem (by have := HN.out; omega)]
                have HP := Lib.hid hpr
                have hki1 : (0 : Int) < ((m + 1 : Nat) : Int) := by omega
                clear hpr d1
                generalize es[m]'(by have := HN.out; omega) = d at *
                replace d0 := cell_regrown d0
                cases hg3 : gte d.k e.k with
                | true =>
                  have hg4 : (!Op.bytesLess d.k.toList e.k.toList) = true := hg3
                  have HG := Lib.hid hg3
                  clear hg3
                  replace a0 := cell_regrown a0
                  refine wp_region_quiet_below (by kernel_rfl) (by kernel_rfl) ?_
                  repeat (go_big_quiet_step (first | exact C3.out.re _ _ _ | exact C4.out.re _ _ _))
                  refine wpQuiet_nil ?_
                  intro _ hw'
                  obtain ⟨⟨dq, osq⟩, hw''⟩ := hw'
                  subst hw''
                  have lk := below_regrown w3 dq osq
                  generalize grow (redrawn w3 dq) osq = w4 at *
                  clear a0
                  go_wp2_with fail
                  go_ret
                  exact ⟨ret_bool (NO.out (HST.out.trans (by rw [HO.out, HP.out, HG.out]; rfl))).symm, below_next B3.out lk⟩
                | false =>
                  have hg4 : (!Op.bytesLess d.k.toList e.k.toList) = false := hg3
                  have HG := Lib.hid hg3
                  clear hg3
                  replace a0 := cell_regrown a0
                  refine wp_region_quiet_below (by kernel_rfl) (by kernel_rfl) ?_
                  repeat (go_big_quiet_step (first | exact C3.out.re _ _ _ | exact C4.out.re _ _ _))
                  refine wpQuiet_nil ?_
                  intro _ hw'
                  obtain ⟨⟨dq, osq⟩, hw''⟩ := hw'
                  subst hw''
                  have lk := below_regrown w3 dq osq
                  generalize grow (redrawn w3 dq) osq = w4 at *
                  clear a0
                  go_wp2_with fail
                  go_roundw
                  case rel => exact ⟨m + 1 + 1, by go_num, by omega, Lib.hid (fun j hj => by
                    rcases Nat.lt_or_ge j (m + 1) with h | h
                    · exact HALL.out j h
                    · obtain rfl : j = m + 1 := by omega
                      rw [HST.out, HO.out, HP.out, HG.out]; rfl), Lib.hid (below_next B3.out lk)⟩
                  case measure => simp [intOf]; omega
            · have h3b : (kb e.k != b) = true := by simp [h3]
              have HO := Lib.hid (show okE b e = false from by unfold okE; rw [E1.out, E2.out]; simpa using h3)
              clear h3
              replace a0 := cell_regrown a0
              refine wp_region_quiet_below (by kernel_rfl) (by kernel_rfl) ?_
              repeat (go_big_quiet_step (first | exact C3.out.re _ _ _ | exact C4.out.re _ _ _))
              refine wpQuiet_nil ?_
              intro _ hw'
              obtain ⟨⟨dq, osq⟩, hw''⟩ := hw'
              subst hw''
              have lk := below_regrown w3 dq osq
              generalize grow (redrawn w3 dq) osq = w4 at *
              clear a0
              go_wp2_with fail
              go_ret
              exact ⟨ret_bool (NO.out (HST.out.trans (by rw [HO.out]; rfl))).symm, below_next B3.out lk⟩
      · obtain rfl : n = k := by omega
        go_wp2_with fail
        go_ret
        refine ⟨ret_bool ?_, B.out⟩
        unfold areB
        rw [HN.out, decide_eq_true h8, Bool.true_and]
        symm
        rw [List.all_eq_true]
        exact fun j hj => HALL.out j (List.mem_range.1 hj)
  · have h8i : ¬ (n : Int) ≤ 8 := by omega
    go_enter Try.func36, Try.ntmps36
    go_wp2_with fail
    go_ret
    refine ⟨ret_bool ?_, Below.refl _ _⟩
    unfold areB
    rw [HN.out, decide_eq_false h8]; rfl
set_option maxHeartbeats 8000000 in
theorem rright_any (w : World) (i : It) (h : EsR w s i.es) : Calls Try.prog 15 #[i.ag s] w fun e w' => e = .returned (.bool (rightB i)) ∧ Below w.heap.size w w' := by
  obtain ⟨bk, ver, wt, es, i0, i1, i2, i3⟩ := i
  obtain ⟨W, hW⟩ : ∃ W, W = w.alloc (.cells #[.int .i64 bk, .int .u32 ver, .bool wt, .slice s.ao es.length s.cap, .int .u32 i0, .int .u32 i1, .int .u32 i2, .int .u32 i3] 26) := ⟨_, rfl⟩
  have bW : Below w.heap.size w W := by rw [hW]; exact below_alloc (Below.refl _ _) _
  have r1 : W.heap[w.heap.size]? = some (.cells #[.int .i64 bk, .int .u32 ver, .bool wt, .slice s.ao es.length s.cap, .int .u32 i0, .int .u32 i1, .int .u32 i2, .int .u32 i3] 26 (0, 0)) := by rw [hW]; exact heap_alloc_new w _
  have BW := Lib.hid bW
  have R1 := Lib.hid r1
  have C := Lib.hid (rentries_any (s := s) bk W (h.below bW))
  have hmx : (es.length : Int) ≤ 9223372036854775807 := by have := h.len; simp only at this; unfold maxLen at this; omega
  have HE := Lib.hid (show decide (es = []) = decide (es.length = 0) from by cases es <;> simp)
  have HR := Lib.hid (show rightB ⟨bk, ver, wt, es, i0, i1, i2, i3⟩ = (decide (0 ≤ bk ∧ bk < 64) && (decide (ver < 2147483647) && (decide (3 ≤ cnt4 ⟨bk, ver, wt, es, i0, i1, i2, i3⟩) && (if wt then areB bk es else decide (es = []))))) from rfl)
  generalize areB bk es = ar at *
  obtain ⟨a0, a1, a2, a3, a4, a5, a6, a7⟩ := item_cells r1
  clear h bW r1
  simp only [It.ag]
  go_enter Try.func15, Try.ntmps15
  go_upto_region 1 with (fail)
  rw [← hW]
  clear hW
  generalize hbi : w.heap.size = bi at a0 a1 a2 a3 a4 a5 a6 a7 R1 ⊢
  go_wp2_with fail
  go_loopw [3, 4] (fun v3 v4 wx => wx = W ∧ ∃ k : Nat, k ≤ 4 ∧ v4 = .int .i64 (k : Int) ∧ v3 = .int .i64 (cntTo ⟨bk, ver, wt, es, i0, i1, i2, i3⟩ k : Int)) (fun _ v4 _ => 4 - (intOf v4).toNat)
  case atStart => exact ⟨rfl, 0, by omega, rfl, rfl⟩
  case round =>
    obtain ⟨rfl, k, hk, rfl, rfl⟩ := hrel
    have hk5 : k = 0 ∨ k = 1 ∨ k = 2 ∨ k = 3 ∨ k = 4 := by omega
    have nzle : ∀ x, nz x ≤ 1 := fun x => by unfold nz; split <;> omega
    have n0 := nzle i0; have n1 := nzle i1; have n2 := nzle i2; have n3 := nzle i3
    clear nzle
    rcases hk5 with rfl | rfl | rfl | rfl | rfl
    · by_cases h0 : i0 = 0
      · have h0b : (i0 != 0) = false := by simp [h0]
        have e : cntTo ⟨bk, ver, wt, es, i0, i1, i2, i3⟩ 1 = cntTo ⟨bk, ver, wt, es, i0, i1, i2, i3⟩ 0 := by simp [cntTo, nz, h0]
        have hc : cntTo ⟨bk, ver, wt, es, i0, i1, i2, i3⟩ 0 ≤ 4 := by simp only [cntTo]; omega
        have E := Lib.hid e
        clear e h0 n0 n1 n2 n3
        generalize cntTo ⟨bk, ver, wt, es, i0, i1, i2, i3⟩ = c at *
        go_wp2_with fail
        go_roundw
        case rel => exact ⟨trivial, 1, by omega, rfl, by rw [E.out]⟩
        case measure => simp [intOf]
      · have h0b : (i0 != 0) = true := by simp [h0]
        have e : cntTo ⟨bk, ver, wt, es, i0, i1, i2, i3⟩ 1 = cntTo ⟨bk, ver, wt, es, i0, i1, i2, i3⟩ 0 + 1 := by simp [cntTo, nz, h0]
        have hc : cntTo ⟨bk, ver, wt, es, i0, i1, i2, i3⟩ 0 ≤ 4 := by simp only [cntTo]; omega
        have E := Lib.hid e
        clear e h0 n0 n1 n2 n3
        generalize cntTo ⟨bk, ver, wt, es, i0, i1, i2, i3⟩ = c at *
        go_wp2_with fail
        go_roundw
        case rel => exact ⟨trivial, 1, by omega, rfl, by rw [E.out]; go_num⟩
        case measure => simp [intOf]
    · by_cases h0 : i1 = 0
      · have h0b : (i1 != 0) = false := by simp [h0]
        have e : cntTo ⟨bk, ver, wt, es, i0, i1, i2, i3⟩ 2 = cntTo ⟨bk, ver, wt, es, i0, i1, i2, i3⟩ 1 := by simp [cntTo, nz, h0]
        have hc : cntTo ⟨bk, ver, wt, es, i0, i1, i2, i3⟩ 1 ≤ 4 := by simp only [cntTo]; omega
        have E := Lib.hid e
        clear e h0 n0 n1 n2 n3
        generalize cntTo ⟨bk, ver, wt, es, i0, i1, i2, i3⟩ = c at *
        go_wp2_with fail
        go_roundw
        case rel => exact ⟨trivial, 2, by omega, rfl, by rw [E.out]⟩
        case measure => simp [intOf]
      · have h0b : (i1 != 0) = true := by simp [h0]
        have e : cntTo ⟨bk, ver, wt, es, i0, i1, i2, i3⟩ 2 = cntTo ⟨bk, ver, wt, es, i0, i1, i2, i3⟩ 1 + 1 := by simp [cntTo, nz, h0]
        have hc : cntTo ⟨bk, ver, wt, es, i0, i1, i2, i3⟩ 1 ≤ 4 := by simp only [cntTo]; omega
        have E := Lib.hid e
        clear e h0 n0 n1 n2 n3
        generalize cntTo ⟨bk, ver, wt, es, i0, i1, i2, i3⟩ = c at *
        go_wp2_with fail
        go_roundw
        case rel => exact ⟨trivial, 2, by omega, rfl, by rw [E.out]; go_num⟩
        case measure => simp [intOf]
    · by_cases h0 : i2 = 0
      · have h0b : (i2 != 0) = false := by simp [h0]
        have e : cntTo ⟨bk, ver, wt, es, i0, i1, i2, i3⟩ 3 = cntTo ⟨bk, ver, wt, es, i0, i1, i2, i3⟩ 2 := by simp [cntTo, nz, h0]
        have hc : cntTo ⟨bk, ver, wt, es, i0, i1, i2, i3⟩ 2 ≤ 4 := by simp only [cntTo]; omega
        have E := Lib.hid e
        clear e h0 n0 n1 n2 n3
        generalize cntTo ⟨bk, ver, wt, es, i0, i1, i2, i3⟩ = c at *
        go_wp2_with fail
        go_roundw
        case rel => exact ⟨trivial, 3, by omega, rfl, by rw [E.out]⟩
        case measure => simp [intOf]
      · have h0b : (i2 != 0) = true := by simp [h0]
        have e : cntTo ⟨bk, ver, wt, es, i0, i1, i2, i3⟩ 3 = cntTo ⟨bk, ver, wt, es, i0, i1, i2, i3⟩ 2 + 1 := by simp [cntTo, nz, h0]
        have hc : cntTo ⟨bk, ver, wt, es, i0, i1, i2, i3⟩ 2 ≤ 4 := by simp only [cntTo]; omega
        have E := Lib.hid e
        clear e h0 n0 n1 n2 n3
        generalize cntTo ⟨bk, ver, wt, es, i0, i1, i2, i3⟩ = c at *
        go_wp2_with fail
        go_roundw
        case rel => exact ⟨trivial, 3, by omega, rfl, by rw [E.out]; go_num⟩
        case measure => simp [intOf]
    · by_cases h0 : i3 = 0
      · have h0b : (i3 != 0) = false := by simp [h0]
        have e : cntTo ⟨bk, ver, wt, es, i0, i1, i2, i3⟩ 4 = cntTo ⟨bk, ver, wt, es, i0, i1, i2, i3⟩ 3 := by simp [cntTo, nz, h0]
        have hc : cntTo ⟨bk, ver, wt, es, i0, i1, i2, i3⟩ 3 ≤ 4 := by simp only [cntTo]; omega
        have E := Lib.hid e
        clear e h0 n0 n1 n2 n3
        generalize cntTo ⟨bk, ver, wt, es, i0, i1, i2, i3⟩ = c at *
        go_wp2_with fail
        go_roundw
        case rel => exact ⟨trivial, 4, by omega, rfl, by rw [E.out]⟩
        case measure => simp [intOf]
      · have h0b : (i3 != 0) = true := by simp [h0]
        have e : cntTo ⟨bk, ver, wt, es, i0, i1, i2, i3⟩ 4 = cntTo ⟨bk, ver, wt, es, i0, i1, i2, i3⟩ 3 + 1 := by simp [cntTo, nz, h0]
        have hc : cntTo ⟨bk, ver, wt, es, i0, i1, i2, i3⟩ 3 ≤ 4 := by simp only [cntTo]; omega
        have E := Lib.hid e
        clear e h0 n0 n1 n2 n3
        generalize cntTo ⟨bk, ver, wt, es, i0, i1, i2, i3⟩ = c at *
        go_wp2_with fail
        go_roundw
        case rel => exact ⟨trivial, 4, by omega, rfl, by rw [E.out]; go_num⟩
        case measure => simp [intOf]
    · have hc : cntTo ⟨bk, ver, wt, es, i0, i1, i2, i3⟩ 4 = cnt4 ⟨bk, ver, wt, es, i0, i1, i2, i3⟩ := rfl
      rw [hc]
      have h4 : cnt4 ⟨bk, ver, wt, es, i0, i1, i2, i3⟩ ≤ 4 := by simp only [cnt4]; omega
      clear hc n0 n1 n2 n3
      generalize cnt4 ⟨bk, ver, wt, es, i0, i1, i2, i3⟩ = c at *
      go_wp2_with fail
      refine C.out.mono ?_; rintro e w2 ⟨rfl, b2⟩
      have R2 := Lib.hid (row_keep R1.out (Keep.of_below b2 []) (by simp))
      have B2 := Lib.hid (show Below w.heap.size w w2 from below_next BW.out b2)
      clear a0 a1 a2 a3 a4 a5 a6 a7 b2 R1 C
      obtain ⟨a0, a1, a2, a3, -, -, -, -⟩ := item_cells R2.out
      by_cases h0 : 0 ≤ bk
      · by_cases h1 : bk < 64
        · have HB := Lib.hid (show decide (0 ≤ bk ∧ bk < 64) = true from by simpa using ⟨h0, h1⟩)
          by_cases h2 : ver < 2147483647
          · have HV := Lib.hid (show decide (ver < 2147483647) = true from by simpa using h2)
            by_cases h3 : 3 ≤ c
            · have h3i : (3 : Int) ≤ (c : Int) := by omega
              have HC := Lib.hid (show decide (3 ≤ c) = true from by simpa using h3)
              clear h3
              cases wt with
              | true =>
                cases ar with
                | true =>
                  go_wp2_with fail
                  go_ret
                  exact ⟨ret_bool (by rw [HR.out]; rw [HB.out, HV.out, HC.out]; rfl), by first | exact B2.out | (rw [← hbi]; exact B2.out)⟩
                | false =>
                  go_wp2_with fail
                  go_ret
                  exact ⟨ret_bool (by rw [HR.out]; rw [HB.out, HV.out, HC.out]; rfl), by first | exact B2.out | (rw [← hbi]; exact B2.out)⟩
              | false =>
                by_cases hl : es.length = 0
                · have hli : ((es.length : Int) == 0) = true := by simp [hl]
                  have HL := Lib.hid (show decide (es.length = 0) = true from by simpa using hl)
                  clear hl
                  generalize es.length = len at *
                  go_wp2_with fail
                  go_ret
                  exact ⟨ret_bool (by rw [HR.out]; rw [HB.out, HV.out, HC.out, HE.out, HL.out]; rfl), by first | exact B2.out | (rw [← hbi]; exact B2.out)⟩
                · have hli : ((es.length : Int) == 0) = false := by simp [hl]
                  have HL := Lib.hid (show decide (es.length = 0) = false from by simpa using hl)
                  clear hl
                  generalize es.length = len at *
                  go_wp2_with fail
                  go_ret
                  exact ⟨ret_bool (by rw [HR.out]; rw [HB.out, HV.out, HC.out, HE.out, HL.out]; rfl), by first | exact B2.out | (rw [← hbi]; exact B2.out)⟩
            · have h3i : ¬ (3 : Int) ≤ (c : Int) := by omega
              have HC := Lib.hid (show decide (3 ≤ c) = false from by simpa using h3)
              clear h3
              go_wp2_with fail
              go_ret
              exact ⟨ret_bool (by rw [HR.out]; rw [HB.out, HV.out, HC.out]; rfl), by first | exact B2.out | (rw [← hbi]; exact B2.out)⟩
          · have HV := Lib.hid (show decide (ver < 2147483647) = false from by simpa using h2)
            go_wp2_with fail
            go_ret
            exact ⟨ret_bool (by rw [HR.out]; rw [HB.out, HV.out]; rfl), by first | exact B2.out | (rw [← hbi]; exact B2.out)⟩
        · have HB := Lib.hid (show decide (0 ≤ bk ∧ bk < 64) = false from by simpa using fun _ => by omega)
          go_wp2_with fail
          go_ret
          exact ⟨ret_bool (by rw [HR.out]; rw [HB.out]; rfl), by first | exact B2.out | (rw [← hbi]; exact B2.out)⟩
      · have HB := Lib.hid (show decide (0 ≤ bk ∧ bk < 64) = false from by simpa using fun h => absurd h h0)
        go_wp2_with fail
        go_ret
        exact ⟨ret_bool (by rw [HR.out]; rw [HB.out]; rfl), by first | exact B2.out | (rw [← hbi]; exact B2.out)⟩
end
end Go.Proofs.Ytbjcmomicjdepaa
