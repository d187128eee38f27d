/- The document's Step. -/
import Derived.Test.YtokmchkoojeadaaRb
namespace Go.Proofs.Ytokmchkoojeadaa
open Go.RowKit Go.Sort
set_option linter.unusedVariables false
set_option linter.unusedSimpArgs false
set_option maxRecDepth 100000
theorem find_last {F : List Pe} {f : Pe → Bool} {k : Nat} {x : Pe} (hx : F[k]? = some x) (h1 : f x = true) (h2 : ∀ (j : Nat) (y : Pe), k < j → F[j]? = some y → f y = false) : F.reverse.find? f = some x := by
  obtain ⟨hk, hk2⟩ := List.getElem?_eq_some_iff.1 hx
  have e : F = F.take k ++ (x :: F.drop (k + 1)) := by
    have h := List.take_append_drop k F
    rw [List.drop_eq_getElem_cons hk, hk2] at h
    exact h.symm
  have hn : (F.drop (k + 1)).reverse.find? f = none := by
    rw [List.find?_eq_none]
    intro y hy
    obtain ⟨j, hj⟩ := List.getElem?_of_mem (List.mem_reverse.1 hy)
    rw [List.getElem?_drop] at hj
    rw [h2 _ y (by omega) hj]
    simp
  rw [e, List.reverse_append, List.reverse_cons, List.append_assoc, List.find?_append, hn]
  simp [h1]
theorem find_nil {F : List Pe} {f : Pe → Bool} (h : ∀ (j : Nat) (y : Pe), F[j]? = some y → f y = false) : F.reverse.find? f = none := by
  rw [List.find?_eq_none]
  intro y hy
  obtain ⟨j, hj⟩ := List.getElem?_of_mem (List.mem_reverse.1 hy)
  rw [h j y hj]
  simp
theorem results_cell_tmp2 {P : Program} {fn : Func} {t s r : Tmp} {u : TypeId} {tmps : Array Value} {w : World} {ad : Addr} {v x y : Value} (h : fn.results = #[.cell t u, .tmp s, .tmp r]) (ht : tmps.getD t undef = .pointer (some ad))
    (hl : (loadVar u ad).run P w = .ok v w) (hx : tmps.getD s undef = x) (hy : tmps.getD r undef = y) : (results fn tmps).run P w = .ok (.tuple #[v, x, y]) w := by
  have ht' : tmps[t]?.getD undef = .pointer (some ad) := by simpa using ht
  have hx' : tmps[s]?.getD undef = x := by simpa using hx
  have hy' : tmps[r]?.getD undef = y := by simpa using hy
  simp [results, h, ht', hl, asAddr, hx', hy']
section
variable {B b cap : Nat} {ao : Option Addr} {s p c : Pe} {F : List Pe}
set_option maxHeartbeats 16000000 in
theorem dstep_any (th tl : Int) (w : World) (h : DbW w B b ao cap s p c F) (hF : F.length ≤ 1000) : Calls Try.prog 26 #[.pointer (some ⟨b, 0, none⟩), pos th tl] w fun e w' => e = .returned (stepV (stepR s (nbP s p c) (nbC s c) F th tl)) ∧ Below w.heap.size w w' := by
  have B0 := below_alloc (Below.refl w.heap.size w) (.cells #[.int .u64 th, .int .u64 tl] 24)
  have B1 := below_alloc (Below.refl _ (w.alloc (.cells #[.int .u64 th, .int .u64 tl] 24))) (.cells #[.int .i64 0, .int .u64 0, .int .u64 0] 26)
  have R0 := row_keep (heap_alloc_new w (.cells #[.int .u64 th, .int .u64 tl] 24)) (Keep.of_below B1 []) (by simp)
  have R1 := heap_alloc_new (w.alloc (.cells #[.int .u64 th, .int .u64 tl] 24)) (.cells #[.int .i64 0, .int .u64 0, .int .u64 0] 26)
  rw [World.size_alloc] at R1
  have BB := Lib.hid (below_next B0 B1)
  have H1 := Lib.hid (h.below BB.out)
  have Q0 := Lib.hid R0; have Q1 := Lib.hid R1
  have HF := Lib.hid hF
  clear B0 B1 R0 R1 h hF
  obtain ⟨ob, hob⟩ : ∃ x, dOwn s p c th tl = x := ⟨_, rfl⟩
  have OW := Lib.hid (fun w1 sv (h : DbR w1 b s p c sv) => down_any th tl w1 h)
  rw [hob] at OW
  have HOB := Lib.hid hob
  clear hob
  cases ob
  all_goals
    go_enter Try.func26, Try.ntmps26
    go_upto_region 1 with (fail)
    generalize (w.alloc (.cells #[.int .u64 th, .int .u64 tl] 24)).alloc (.cells #[.int .i64 0, .int .u64 0, .int .u64 0] 26) = w1 at *
    obtain ⟨x1, hx1⟩ : ∃ x, x = w.heap.size + 1 := ⟨_, rfl⟩
    rw [← hx1] at Q1 ⊢
    obtain ⟨x0, hx0⟩ : ∃ x, x = w.heap.size := ⟨_, rfl⟩
    rw [← hx0] at Q0 ⊢
    have XX := Lib.hid (show w.heap.size ≤ x1 from by omega)
    clear hx0 hx1
    have a0 := cell_of_row w1 x0 0 _ _ (0, 0) Q0.out; have a1 := cell_of_row w1 x0 1 _ _ (0, 0) Q0.out
    simp only [List.getElem?_toArray, List.getElem?_cons_succ, List.getElem?_cons_zero] at a0 a1
    go_wp2_with fail
    refine (OW.out w1 _ H1.out.row).mono ?_; rintro e w2 ⟨rfl, b2⟩
    have H2 := Lib.hid (H1.out.below b2)
    have Q0 := Lib.hid (row_keep Q0.out (Keep.of_below b2 []) (by simp)); have Q1 := Lib.hid (row_keep Q1.out (Keep.of_below b2 []) (by simp))
    have B2 := Lib.hid (below_next BB.out b2)
    clear b2 a0 a1
  · have hno : own s (nbP s p c) (nbC s c) th tl = false := by rw [own_doc]; exact HOB.out
    have hcn : (c.n == s.n) = false := by
      have h := HOB.out
      unfold dOwn at h
      cases hq : (c.n == s.n) with
      | false => rfl
      | true => rw [hq] at h; simp at h
    have HC := Lib.hid (nb_two (p := p) hcn)
    have HNO := Lib.hid hno
    clear hno hcn
    obtain ⟨pq, hpq⟩ : ∃ x, (th == c.h && tl == c.l) = x := ⟨_, rfl⟩
    obtain ⟨bt, hbt⟩ : ∃ x, btw s.h s.l th tl c.h c.l = x := ⟨_, rfl⟩
    have EQ0 := Lib.hid (eql_pos th tl c.h c.l)
    rw [hpq] at EQ0
    have CB := Lib.hid (fun d os => Calls.regrown_of (rbetween_any s.h s.l th tl c.h c.l (grow (redrawn w2 d) os)))
    rw [hbt] at CB
    have HPQ := Lib.hid hpq; have HBT := Lib.hid hbt
    clear hpq hbt
    cases pq <;> cases bt
    all_goals
      have x00 := cell_regrown (cell_of_row w2 x0 0 _ _ (0, 0) Q0.out); have x01 := cell_regrown (cell_of_row w2 x0 1 _ _ (0, 0) Q0.out)
      have t1 := H2.out.row.at_ 1; have t2 := H2.out.row.at_ 2; have t7 := H2.out.row.at_ 7; have t8 := H2.out.row.at_ 8
      simp only [rowT, List.getElem?_toArray, List.getElem?_cons_succ, List.getElem?_cons_zero] at t1 t2 t7 t8
      replace t1 := cell_regrown t1; replace t2 := cell_regrown t2; replace t7 := cell_regrown t7; replace t8 := cell_regrown t8
      have EQ := EQ0.out
      go_upto_region 4 with (fail)
      refine wp_region_quiet_below (by kernel_rfl) (by kernel_rfl) ?_
      repeat (go_big_quiet_step (first | exact CB.out _ _))
      refine wpQuiet_nil ?_
      intro _ hw'
      obtain ⟨⟨dq, osq⟩, hw''⟩ := hw'
      subst hw''
      have lk := below_regrown w2 dq osq
      have H3 := Lib.hid (H2.out.below lk)
      have Q0 := Lib.hid (row_keep Q0.out (Keep.of_below lk []) (by simp)); have Q1 := Lib.hid (row_keep Q1.out (Keep.of_below lk []) (by simp))
      have B3 := Lib.hid (below_next B2.out lk)
      clear lk x00 x01 t1 t2 t7 t8 EQ CB EQ0
      generalize grow (redrawn w2 dq) osq = w3 at *
    · -- neither: the fingers
      have HRS := Lib.hid (show stepR s (nbP s p c) (nbC s c) F th tl = match F.reverse.find? (fun f => btw s.h s.l f.h f.l th tl) with | some f => (f, false, 0) | none => (p0, false, 131) from by
        unfold stepR
        rw [if_neg (by rw [HNO.out]; simp), HC.out.2, HPQ.out, HBT.out]
        rfl)
      obtain ⟨m, hm⟩ : ∃ m, F.length = m := ⟨_, rfl⟩
      have HM := Lib.hid hm
      have hm1 : m ≤ 1000 := by rw [← hm]; exact HF.out
      have HTF := Lib.hid (show ∀ w', Below w3.heap.size w3 w' → w'.cell? ⟨b, 9, none⟩ = some (.slice ao m cap) from fun w' k' => by
        have q := (H3.out.below k').row.at_ 9
        simp only [rowT, List.getElem?_toArray, List.getElem?_cons_succ, List.getElem?_cons_zero] at q
        rw [HM.out] at q
        exact q)
      have HBL := Lib.hid (show ∀ w', Below w3.heap.size w3 w' → b < w'.heap.size from fun w' k' => (Array.getElem?_eq_some_iff.1 (H3.out.below k').row).1)
      clear hm
      have t9 := HTF.out w3 (Below.refl _ _); have hb9 := HBL.out w3 (Below.refl _ _)
      go_wp2_with fail
      clear t9 hb9
      go_loopw [8, 9] (fun v8 v9 wr => ∃ (i : Nat) (v : Int), v8 = .int .i64 v ∧ v9 = .int .i64 (i : Int) ∧ i ≤ m ∧ Hid ((v = -1 ∧ ∀ (j : Nat) (y : Pe), j < i → F[j]? = some y → btw s.h s.l y.h y.l th tl = false) ∨ (∃ (k : Nat) (x : Pe), v = (k : Int) ∧ k < i ∧ F[k]? = some x ∧ btw s.h s.l x.h x.l th tl = true ∧ ∀ (j : Nat) (y : Pe), k < j → j < i → F[j]? = some y → btw s.h s.l y.h y.l th tl = false)) ∧ Hid (Below w3.heap.size w3 wr)) (fun _ v9 _ => m - (intOf v9).toNat)
      case atStart => exact ⟨0, -1, rfl, rfl, Nat.zero_le _, Lib.hid (.inl ⟨rfl, fun j y hj => by omega⟩), Lib.hid (Below.refl _ _)⟩
      case round =>
        obtain ⟨i, v, rfl, rfl, hi, HV, HBB⟩ := hrel
        have hi0 : (0 : Int) ≤ (i : Int) := by omega
        have t9 := HTF.out wr HBB.out; have hb9 := HBL.out wr HBB.out
        have H4 := Lib.hid (H3.out.below HBB.out)
        have Q0 := Lib.hid (row_keep Q0.out (Keep.of_below HBB.out []) (by simp)); have Q1 := Lib.hid (row_keep Q1.out (Keep.of_below HBB.out []) (by simp))
        have B4 := Lib.hid (below_next B3.out HBB.out)
        by_cases hin : i < m
        · have hii : (i : Int) < (m : Int) := by omega
          obtain ⟨y, hy⟩ : ∃ y, F[i]? = some y := ⟨_, List.getElem?_eq_getElem (by rw [HM.out]; exact hin)⟩
          obtain ⟨ga, hga, _⟩ := owns_none H4.out.own (by rw [HM.out]; omega)
          subst hga
          have HY := Lib.hid hy
          have y1 := cell_regrown (owns_px H4.out.own hy (q := 1) (by omega)); have y2 := cell_regrown (owns_px H4.out.own hy (q := 2) (by omega))
          have x00 := cell_regrown (cell_of_row wr x0 0 _ _ (0, 0) Q0.out); have x01 := cell_regrown (cell_of_row wr x0 1 _ _ (0, 0) Q0.out)
          have t1 := H4.out.row.at_ 1; have t2 := H4.out.row.at_ 2
          simp only [rowT, List.getElem?_toArray, List.getElem?_cons_succ, List.getElem?_cons_zero] at t1 t2
          replace t1 := cell_regrown t1; replace t2 := cell_regrown t2
          have t9r := cell_regrown t9
          obtain ⟨by_, hby⟩ : ∃ q, btw s.h s.l y.h y.l th tl = q := ⟨_, rfl⟩
          have CB := Lib.hid (fun d os => Calls.regrown_of (rbetween_any s.h s.l y.h y.l th tl (grow (redrawn wr d) os)))
          rw [hby] at CB
          have HBY := Lib.hid hby
          clear hy hby
          go_upto_region 10 with (fail)
          refine wp_region_quiet_below (by kernel_rfl) (by kernel_rfl) ?_
          repeat (go_big_quiet_step (first | exact CB.out _ _))
          refine wpQuiet_nil ?_
          intro _ hw'
          obtain ⟨⟨dq, osq⟩, hw''⟩ := hw'
          subst hw''
          have lk := below_regrown wr dq osq
          have HB9 := Lib.hid (below_next HBB.out lk)
          clear y1 y2 x00 x01 t1 t2 t9r t9 hb9
          generalize grow (redrawn wr dq) osq = w9 at *
          cases by_
          · go_wp2_with fail
            go_roundw
            case rel => exact ⟨i + 1, v, rfl, by go_num, by omega, Lib.hid (by
              rcases HV.out with ⟨h1, h2⟩ | ⟨k, x, h1, h2, h3, h4, h5⟩
              · refine .inl ⟨h1, fun j z hj hz => ?_⟩
                rcases Nat.lt_or_ge j i with e | e
                · exact h2 j z e hz
                · obtain rfl : j = i := by omega
                  rw [HY.out] at hz; cases hz; exact HBY.out
              · refine .inr ⟨k, x, h1, by omega, h3, h4, fun j z hk hj hz => ?_⟩
                rcases Nat.lt_or_ge j i with e | e
                · exact h5 j z hk e hz
                · obtain rfl : j = i := by omega
                  rw [HY.out] at hz; cases hz; exact HBY.out), HB9⟩
            case measure => simp [intOf]; omega
          · go_wp2_with fail
            go_roundw
            case rel => exact ⟨i + 1, (i : Int), rfl, by go_num, by omega, Lib.hid (.inr ⟨i, y, rfl, by omega, HY.out, HBY.out, fun j z hk hj hz => by omega⟩), HB9⟩
            case measure => simp [intOf]; omega
        · have hii : ¬ (i : Int) < (m : Int) := by omega
          obtain rfl : m = i := by omega
          rcases HV.out with ⟨h1, h2⟩ | ⟨k, x, h1, h2, h3, h4, h5⟩
          · subst h1
            have HRES := Lib.hid (show stepR s (nbP s p c) (nbC s c) F th tl = (p0, false, 131) from by
              rw [HRS.out, find_nil (fun j y hy => h2 j y (by rw [← HM.out]; exact (List.getElem?_eq_some_iff.1 hy).1) hy)])
            clear h2
            have c0 := cell_of_row wr x1 0 _ _ (0, 0) Q1.out; have c1 := cell_of_row wr x1 1 _ _ (0, 0) Q1.out; have c2 := cell_of_row wr x1 2 _ _ (0, 0) Q1.out
            have f0 := frozen_of_row wr x1 0 _ _ Q1.out; have f1 := frozen_of_row wr x1 1 _ _ Q1.out; have f2 := frozen_of_row wr x1 2 _ _ Q1.out
            simp only [List.getElem?_toArray, List.getElem?_cons_succ, List.getElem?_cons_zero] at c0 c1 c2
            go_wp2_with fail
            have r3 := row3_set Q1.out (.int .i64 p0.n) (.int .u64 p0.h) (.int .u64 p0.l)
            have k3 := row3_keep wr x1 (.int .i64 p0.n) (.int .u64 p0.h) (.int .u64 p0.l)
            refine bodyPost_ret (v := .tuple #[p0.v, .bool false, .int .i64 131]) (results_cell_tmp2 Try.results26 rfl ?_ rfl rfl) rfl ⟨by rw [HRES.out], B4.out.trans (k3.below B4.out.size (by have := XX.out; simpa using this))⟩
            exact run_loadVar_row _ x1 26 26 _ (0, 0) _ r3 Try.underlying26 rfl (by kernel_rfl)
          · subst h1
            have HRES := Lib.hid (show stepR s (nbP s p c) (nbC s c) F th tl = (x, false, 0) from by
              rw [HRS.out, find_last h3 h4 (fun j y hk hy => h5 j y hk (by rw [← HM.out]; exact (List.getElem?_eq_some_iff.1 hy).1) hy)])
            obtain ⟨ga, hga, _⟩ := owns_none H4.out.own (by rw [HM.out]; omega)
            subst hga
            have y0 := owns_px H4.out.own h3 (q := 0) (by omega); have y1 := owns_px H4.out.own h3 (q := 1) (by omega); have y2 := owns_px H4.out.own h3 (q := 2) (by omega)
            simp only [List.getElem?_cons_succ, List.getElem?_cons_zero, Nat.add_zero] at y0 y1 y2
            have hk0 : ¬ (k : Int) < 0 := by omega
            have hk1 : (0 : Int) ≤ (k : Int) := by omega
            have hkm : (k : Int) < (m : Int) := by omega
            clear h3 h4 h5
            have c0 := cell_of_row wr x1 0 _ _ (0, 0) Q1.out; have c1 := cell_of_row wr x1 1 _ _ (0, 0) Q1.out; have c2 := cell_of_row wr x1 2 _ _ (0, 0) Q1.out
            have f0 := frozen_of_row wr x1 0 _ _ Q1.out; have f1 := frozen_of_row wr x1 1 _ _ Q1.out; have f2 := frozen_of_row wr x1 2 _ _ Q1.out
            simp only [List.getElem?_toArray, List.getElem?_cons_succ, List.getElem?_cons_zero] at c0 c1 c2
            go_wp2_with fail
            have r3 := row3_set Q1.out (.int .i64 x.n) (.int .u64 x.h) (.int .u64 x.l)
            have k3 := row3_keep wr x1 (.int .i64 x.n) (.int .u64 x.h) (.int .u64 x.l)
            refine bodyPost_ret (v := .tuple #[x.v, .bool false, .int .i64 0]) (results_cell_tmp2 Try.results26 rfl ?_ rfl rfl) rfl ⟨by rw [HRES.out], B4.out.trans (k3.below B4.out.size (by have := XX.out; simpa using this))⟩
            exact run_loadVar_row _ x1 26 26 _ (0, 0) _ r3 Try.underlying26 rfl (by kernel_rfl)
    · have HRES := Lib.hid (show stepR s (nbP s p c) (nbC s c) F th tl = (c, true, 0) from by
        unfold stepR
        rw [if_neg (by rw [HNO.out]; simp), HC.out.2, HPQ.out, HBT.out]
        rfl)
      have t6 := H3.out.row.at_ 6; have t7 := H3.out.row.at_ 7; have t8 := H3.out.row.at_ 8
      simp only [rowT, List.getElem?_toArray, List.getElem?_cons_succ, List.getElem?_cons_zero] at t6 t7 t8
      have hb9 := (Array.getElem?_eq_some_iff.1 H3.out.row).1
      have c0 := cell_of_row w3 x1 0 _ _ (0, 0) Q1.out; have c1 := cell_of_row w3 x1 1 _ _ (0, 0) Q1.out; have c2 := cell_of_row w3 x1 2 _ _ (0, 0) Q1.out
      have f0 := frozen_of_row w3 x1 0 _ _ Q1.out; have f1 := frozen_of_row w3 x1 1 _ _ Q1.out; have f2 := frozen_of_row w3 x1 2 _ _ Q1.out
      simp only [List.getElem?_toArray, List.getElem?_cons_succ, List.getElem?_cons_zero] at c0 c1 c2
      go_wp2_with fail
      have r3 := row3_set Q1.out (.int .i64 c.n) (.int .u64 c.h) (.int .u64 c.l)
      have k3 := row3_keep w3 x1 (.int .i64 c.n) (.int .u64 c.h) (.int .u64 c.l)
      refine bodyPost_ret (v := .tuple #[c.v, .bool true, .int .i64 0]) (results_cell_tmp2 Try.results26 rfl ?_ rfl rfl) rfl ⟨by rw [HRES.out], B3.out.trans (k3.below B3.out.size (by have := XX.out; simpa using this))⟩
      exact run_loadVar_row _ x1 26 26 _ (0, 0) _ r3 Try.underlying26 rfl (by kernel_rfl)
    · have HRES := Lib.hid (show stepR s (nbP s p c) (nbC s c) F th tl = (c, true, 0) from by
        unfold stepR
        rw [if_neg (by rw [HNO.out]; simp), HC.out.2, HPQ.out, HBT.out]
        rfl)
      have t6 := H3.out.row.at_ 6; have t7 := H3.out.row.at_ 7; have t8 := H3.out.row.at_ 8
      simp only [rowT, List.getElem?_toArray, List.getElem?_cons_succ, List.getElem?_cons_zero] at t6 t7 t8
      have hb9 := (Array.getElem?_eq_some_iff.1 H3.out.row).1
      have c0 := cell_of_row w3 x1 0 _ _ (0, 0) Q1.out; have c1 := cell_of_row w3 x1 1 _ _ (0, 0) Q1.out; have c2 := cell_of_row w3 x1 2 _ _ (0, 0) Q1.out
      have f0 := frozen_of_row w3 x1 0 _ _ Q1.out; have f1 := frozen_of_row w3 x1 1 _ _ Q1.out; have f2 := frozen_of_row w3 x1 2 _ _ Q1.out
      simp only [List.getElem?_toArray, List.getElem?_cons_succ, List.getElem?_cons_zero] at c0 c1 c2
      go_wp2_with fail
      have r3 := row3_set Q1.out (.int .i64 c.n) (.int .u64 c.h) (.int .u64 c.l)
      have k3 := row3_keep w3 x1 (.int .i64 c.n) (.int .u64 c.h) (.int .u64 c.l)
      refine bodyPost_ret (v := .tuple #[c.v, .bool true, .int .i64 0]) (results_cell_tmp2 Try.results26 rfl ?_ rfl rfl) rfl ⟨by rw [HRES.out], B3.out.trans (k3.below B3.out.size (by have := XX.out; simpa using this))⟩
      exact run_loadVar_row _ x1 26 26 _ (0, 0) _ r3 Try.underlying26 rfl (by kernel_rfl)
    · have HRES := Lib.hid (show stepR s (nbP s p c) (nbC s c) F th tl = (c, true, 0) from by
        unfold stepR
        rw [if_neg (by rw [HNO.out]; simp), HC.out.2, HPQ.out, HBT.out]
        rfl)
      have t6 := H3.out.row.at_ 6; have t7 := H3.out.row.at_ 7; have t8 := H3.out.row.at_ 8
      simp only [rowT, List.getElem?_toArray, List.getElem?_cons_succ, List.getElem?_cons_zero] at t6 t7 t8
      have hb9 := (Array.getElem?_eq_some_iff.1 H3.out.row).1
      have c0 := cell_of_row w3 x1 0 _ _ (0, 0) Q1.out; have c1 := cell_of_row w3 x1 1 _ _ (0, 0) Q1.out; have c2 := cell_of_row w3 x1 2 _ _ (0, 0) Q1.out
      have f0 := frozen_of_row w3 x1 0 _ _ Q1.out; have f1 := frozen_of_row w3 x1 1 _ _ Q1.out; have f2 := frozen_of_row w3 x1 2 _ _ Q1.out
      simp only [List.getElem?_toArray, List.getElem?_cons_succ, List.getElem?_cons_zero] at c0 c1 c2
      go_wp2_with fail
      have r3 := row3_set Q1.out (.int .i64 c.n) (.int .u64 c.h) (.int .u64 c.l)
      have k3 := row3_keep w3 x1 (.int .i64 c.n) (.int .u64 c.h) (.int .u64 c.l)
      refine bodyPost_ret (v := .tuple #[c.v, .bool true, .int .i64 0]) (results_cell_tmp2 Try.results26 rfl ?_ rfl rfl) rfl ⟨by rw [HRES.out], B3.out.trans (k3.below B3.out.size (by have := XX.out; simpa using this))⟩
      exact run_loadVar_row _ x1 26 26 _ (0, 0) _ r3 Try.underlying26 rfl (by kernel_rfl)
  · have HRES := Lib.hid (show stepR s (nbP s p c) (nbC s c) F th tl = (s, true, 0) from by
      unfold stepR
      rw [if_pos (by rw [own_doc]; exact HOB.out)])
    have t0 := H2.out.row.at_ 0; have t1 := H2.out.row.at_ 1; have t2 := H2.out.row.at_ 2
    simp only [rowT, List.getElem?_toArray, List.getElem?_cons_succ, List.getElem?_cons_zero] at t0 t1 t2
    have hb9 := (Array.getElem?_eq_some_iff.1 H2.out.row).1
    have c0 := cell_of_row w2 x1 0 _ _ (0, 0) Q1.out; have c1 := cell_of_row w2 x1 1 _ _ (0, 0) Q1.out; have c2 := cell_of_row w2 x1 2 _ _ (0, 0) Q1.out
    have f0 := frozen_of_row w2 x1 0 _ _ Q1.out; have f1 := frozen_of_row w2 x1 1 _ _ Q1.out; have f2 := frozen_of_row w2 x1 2 _ _ Q1.out
    simp only [List.getElem?_toArray, List.getElem?_cons_succ, List.getElem?_cons_zero] at c0 c1 c2
    go_wp2_with fail
    have r3 := row3_set Q1.out (.int .i64 s.n) (.int .u64 s.h) (.int .u64 s.l)
    have k3 := row3_keep w2 x1 (.int .i64 s.n) (.int .u64 s.h) (.int .u64 s.l)
    refine bodyPost_ret (v := .tuple #[s.v, .bool true, .int .i64 0]) (results_cell_tmp2 Try.results26 rfl ?_ rfl rfl) rfl ⟨by rw [HRES.out], B2.out.trans (k3.below B2.out.size (by have := XX.out; simpa using this))⟩
    exact run_loadVar_row _ x1 26 26 _ (0, 0) _ r3 Try.underlying26 rfl (by kernel_rfl)
end
end Go.Proofs.Ytokmchkoojeadaa
