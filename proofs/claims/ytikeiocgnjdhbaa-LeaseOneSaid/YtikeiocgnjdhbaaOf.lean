/- held, run and Of of package arcs. -/
import Derived.Test.YtikeiocgnjdhbaaRuns
namespace Go.Proofs.Ytikeiocgnjdhbaa
open Go.RowKit Go.Sort
set_option linter.unusedVariables false

theorem results_cell1 {P : Program} {fn : Func} {t : Tmp} {u : TypeId} {tmps : Array Value} {w : World} {ad : Addr} {v : Value} (h : fn.results = #[.cell t u]) (ht : tmps.getD t undef = .pointer (some ad))
    (hl : (loadVar u ad).run P w = .ok v w) : (results fn tmps).run P w = .ok v w := by
  have ht' : tmps[t]?.getD undef = .pointer (some ad) := by simpa using ht
  simp [results, h, ht', hl, asAddr]
theorem bools_one (l : List Bool) : (⟨l.map Value.bool⟩ : Array Value).all (·.oneCell') = true := by
  refine Array.all_eq_true_iff_forall_mem.2 (fun v hv => ?_)
  simp at hv
  rcases hv with ⟨_, rfl⟩ | ⟨_, rfl⟩ <;> rfl

theorem further_nat (p n : Nat) (hp : p < 64) (hn : n ≤ 64) (w : World) : Calls Try.prog 40 #[.int .i64 (p : Int), .int .i64 (n : Int)] w fun e w' => e = .returned (.int .i64 (((p + n) % 64 : Nat) : Int)) ∧ w = w' := by
  have h := further_any p n (by omega) (by omega) (by omega) (by omega) w
  rw [show ((p : Int) + n) % 64 = (((p + n) % 64 : Nat) : Int) by omega] at h
  exact h

set_option maxHeartbeats 2000000 in
theorem run_any (bs : List Bool) (hl : bs.length = 64) (p : Nat) (hp : p < 64) : Ret 41 #[.agg ⟨bs.map Value.bool⟩, .int .i64 (p : Int)] (.returned (.int .i64 (runN bs p : Nat))) := by
  intro w
  have HL := Lib.hid hl; clear hl
  have HR := Lib.hid (show runF (from_ bs p) (64 - 0) 0 = runN bs p from rfl)
  generalize runN bs p = R at *
  go_enter Try.func41, Try.ntmps41
  go_wp2_with fail
  have hrow := Row.new w 69 bs
  have hW : Below w.heap.size w (w.alloc (.cells ⟨bs.map Value.bool⟩ 69)) := below_alloc (Below.refl _ _) _
  generalize w.alloc (.cells ⟨bs.map Value.bool⟩ 69) = W at *
  have HROW := Lib.hid hrow; clear hrow
  go_loop [5] (fun i => ∃ n : Nat, n ≤ 64 ∧ i = .int .i64 (n : Int) ∧ runF (from_ bs p) (64 - n) n = R) (fun i => 64 - (intOf i).toNat)
  case atStart => exact ⟨0, Nat.zero_le _, rfl, HR.out⟩
  case round =>
    obtain ⟨n, hn, rfl, hf⟩ := hrel
    have HF := Lib.hid hf; clear hf
    by_cases hlt : n < 64
    · have C1 := Lib.hid (further_nat p n hp hn)
      have hc := HROW.out.in HL.out ((p + n) % 64) (Nat.mod_lt _ (by omega))
      have HQ := Lib.hid (show from_ bs p n = inB bs ((p + n) % 64) from rfl)
      have hq : (p + n) % 64 < 64 := Nat.mod_lt _ (by omega)
      generalize (p + n) % 64 = q at *
      cases hv : inB bs q
      · rw [hv] at hc
        have HV := Lib.hid hv; clear hv
        go_wp2_with fail
        refine (C1.out _).mono ?_
        rintro e w1 ⟨rfl, rfl⟩
        go_wp2_with fail
        go_ret
        exact ⟨ret_int (by rw [← HF.out, runF_stop hlt (HQ.out.trans HV.out)]), hW⟩
      · rw [hv] at hc
        have HV := Lib.hid hv; clear hv
        go_wp2_with fail
        refine (C1.out _).mono ?_
        rintro e w1 ⟨rfl, rfl⟩
        go_wp2_with fail
        go_round
        case rel => exact ⟨n + 1, by omega, by go_num, by rw [← runF_step hlt (HQ.out.trans HV.out)]; exact HF.out⟩
        case measure => simp [intOf]; omega
    · obtain rfl : n = 64 := by omega
      go_wp2_with fail
      go_ret
      exact ⟨ret_int (by rw [← HF.out]; rfl), hW⟩

set_option maxHeartbeats 2000000 in
theorem held_any (f s : Int) : Ret 39 #[arc f s] (.returned (.agg ⟨(upto (fun p => hasB f s p) 64).map Value.bool⟩)) := by
  intro w
  have HU := Lib.hid (upto_succ fun p => hasB f s p)
  have CH := Lib.hid (has_any f s)
  go_enter Try.func39, Try.ntmps39
  go_wp2_with fail
  have m1 := ((Holds.nil w).new2 (.int .i64 f) (.int .i64 s) 37)
  have hW : Below w.heap.size w (w.alloc (.cells #[.int .i64 f, .int .i64 s] 37)) := below_alloc (Below.refl _ _) _
  obtain ⟨g1, g2, g3⟩ := m1.two
  clear m1
  simp only [World.size_alloc] at g1 g2 g3
  have hz : w.heap.size + 1 = (w.alloc (.cells #[.int .i64 f, .int .i64 s] 37)).heap.size := by simp
  generalize w.alloc (.cells #[.int .i64 f, .int .i64 s] 37) = W at *
  rw [hz]
  change Code.wp _ _ _ _ (World.alloc (World.alloc W (.cells ⟨zeros.map Value.bool⟩ 69)) (.cells ⟨zeros.map Value.bool⟩ 69))
  have hA0 : w.heap.size < W.heap.size := by omega
  have hr2 : Row ((W.alloc (.cells ⟨zeros.map Value.bool⟩ 69)).alloc (.cells ⟨zeros.map Value.bool⟩ 69)) W.heap.size 69 zeros := (Row.new W _ zeros).alloc _
  have hr3 : Row ((W.alloc (.cells ⟨zeros.map Value.bool⟩ 69)).alloc (.cells ⟨zeros.map Value.bool⟩ 69)) (W.heap.size + 1) 69 (upto (fun p => hasB f s p) 0) := by
    rw [upto_zero]
    have := Row.new (W.alloc (.cells ⟨zeros.map Value.bool⟩ 69)) 69 zeros
    rw [World.size_alloc] at this
    exact this
  have hb0 : Below W.heap.size W ((W.alloc (.cells ⟨zeros.map Value.bool⟩ 69)).alloc (.cells ⟨zeros.map Value.bool⟩ 69)) := below_alloc (below_alloc (Below.refl _ _) _) _
  generalize (W.alloc (.cells ⟨zeros.map Value.bool⟩ 69)).alloc (.cells ⟨zeros.map Value.bool⟩ 69) = W2 at *
  clear hz g3
  have HR2 := Lib.hid hr2; have HR3 := Lib.hid hr3; clear hr2 hr3
  go_loopw [5] (fun i wr => ∃ k : Nat, k ≤ 64 ∧ i = .int .i64 (k : Int) ∧ Row wr W.heap.size 69 zeros ∧ Row wr (W.heap.size + 1) 69 (upto (fun p => hasB f s p) k) ∧ Below W.heap.size W wr) (fun i _ => 64 - (intOf i).toNat)
  case atStart => exact ⟨0, Nat.zero_le _, rfl, HR2.out, HR3.out, hb0⟩
  case round =>
    clear HR2 HR3 hb0
    obtain ⟨k, hk, rfl, hr2, hr3, hb⟩ := hrel
    have HR2 := Lib.hid hr2; have HR3 := Lib.hid hr3; clear hr2 hr3
    by_cases hlt : k < 64
    · have r4 := (hb.cell (p := ⟨w.heap.size, 0, none⟩) hA0).trans g1
      have r5 := (hb.cell (p := ⟨w.heap.size, 1, none⟩) hA0).trans g2
      clear g1 g2
      go_wp2_with fail
      refine (CH.out _ _).mono ?_
      rintro e w3 ⟨rfl, l3⟩
      have c3 := (HR3.out.keep l3).cell k (by rw [upto_length]; exact hlt)
      have z3 := (HR3.out.keep l3).frozen k
      have hb3 := below_next hb l3
      have HN3 := Lib.hid (HR3.out.keep l3)
      have HN2 := Lib.hid (HR2.out.keep l3)
      clear r4 r5 l3 hb HR2 HR3
      go_wp2_with fail
      go_roundw
      case rel =>
        refine ⟨k + 1, by omega, by go_num, ?_, by rw [HU.out]; exact HN3.out.set k _, hb3.setCell (by simp) _⟩
        unfold Row
        rw [heap_setCell_other _ _ _ _ (by simp)]
        exact HN2.out
      case measure => simp [intOf]; omega
    · obtain rfl : k = 64 := by omega
      have hl := places_row wr HR3.out (upto_length _ _)
      have HN := Lib.hid (setRow_heap wr W.heap.size _ ⟨(upto (fun p => hasB f s p) 64).map Value.bool⟩ _ _ HR2.out)
      have hbz : Below W.heap.size W (wr.setRow W.heap.size ⟨(upto (fun p => hasB f s p) 64).map Value.bool⟩) := hb.trans ⟨rfl, rfl, rfl, by simp, fun k hk => setRow_other wr W.heap.size k _ (by omega)⟩
      have HP := Lib.hid (run_loadVar_mid (P := Try.prog) (wr.setRow W.heap.size ⟨(upto (fun p => hasB f s p) 64).map Value.bool⟩) W.heap.size 0 69 ((upto (fun p => hasB f s p) 64).map Value.bool) _ (Row.range (t := 69) HN.out) Try.underlying69 rfl (by rw [List.length_map, upto_length]; kernel_rfl))
      clear g1 g2
      go_wp2_with (first
        | (refine wpList_value rfl _ (exec_load 69 (.tmp 3) rfl rfl hl) ?_)
        | (refine wpList_store_row rfl 69 (.tmp 2) (.tmp 14) rfl W.heap.size _ rfl rfl 69 _ HR2.out (by rw [List.size_toArray, List.length_map, upto_length]; kernel_rfl) (by simp [zeros_length, upto_length]) (bools_one _) ?_))
      refine bodyPost_ret (v := .agg ⟨(upto (fun p => hasB f s p) 64).map Value.bool⟩) (results_cell1 Try.results39 rfl HP.out) rfl ⟨rfl, hW.trans (hbz.mono hW.size)⟩

theorem all_upto : upto (fun p => hasB 0 64 p) 64 = List.replicate 64 true := by
  rw [upto_all]
  apply List.ext_getElem (by simp)
  intro i h1 h2
  have hi : i < 64 := by simpa using h1
  rw [List.getElem_replicate, List.getElem_map, List.getElem_range]
  rw [has_spec (by decide) (by omega) (by omega)]
  omega
def trues : List Bool := List.replicate 64 true
theorem trues_length : trues.length = 64 := by simp [trues]
theorem held_whole : Ret 39 #[arc 0 64] (.returned (.agg ⟨trues.map Value.bool⟩)) := by
  have h := held_any 0 64
  rw [all_upto] at h
  exact h

set_option maxHeartbeats 2000000 in
theorem of_all (bs : List Bool) (hl : bs.length = 64) (ha : allK bs 64 = true) (w : World) : Calls Try.prog 28 #[.agg ⟨bs.map Value.bool⟩] w (MadeArcs w (ofL bs)) := by
  have hp : ofL bs = [(0, 64)] := by unfold ofL; rw [if_pos ha]
  rw [hp]
  have he : (bs == trues) = true := (all_true bs hl).trans ha
  have CH := Lib.hid held_whole
  have EQ := Lib.hid (fun w => eql_arr bs trues hl trues_length w)
  rw [he] at EQ
  have HL := Lib.hid hl
  clear hp ha he hl
  go_enter Try.func28, Try.ntmps28
  go_wp2_with fail
  have hW : Below w.heap.size w ((w.alloc (.cells ⟨bs.map Value.bool⟩ 60)).alloc (.cells #[.int .i64 0, .int .i64 64] 37)) := below_alloc (below_alloc (Below.refl _ _) _) _
  have hrow := (Row.new w 60 bs).alloc (.cells #[.int .i64 0, .int .i64 64] 37)
  have m1 := (Holds.nil (w.alloc (.cells ⟨bs.map Value.bool⟩ 60))).new2 (.int .i64 0) (.int .i64 64) 37
  obtain ⟨g1, g2, g3⟩ := m1.two
  clear m1
  simp only [World.size_alloc] at g1 g2 g3
  generalize (w.alloc (.cells ⟨bs.map Value.bool⟩ 60)).alloc (.cells #[.int .i64 0, .int .i64 64] 37) = W at *
  have HROW := Lib.hid hrow; clear hrow
  have r1 := cell_regrown g1
  have r2 := cell_regrown g2
  refine wp_region_quiet_below (by kernel_rfl) (by kernel_rfl) ?_
  refine BigFrame.wpQuiet_want (by rfl) (fun K hK => quiet_value _ (fun w' hw' => exec_load 60 (.tmp 1) rfl rfl (arr_row w' (HROW.out.regrown hw') HL.out)) (hK _ ?_))
  simp only [Act.put, List.setIfInBounds_toArray, List.set_cons_zero, List.set_cons_succ]
  go_big_quiet_step (fail)
  go_big_quiet_step (exact CH.out.re _ _ _)
  refine BigFrame.wpQuiet_want (by rfl) (fun K hK => quiet_value _ (fun w' hw' => exec_bin .eql 60 60 (.tmp 7) (.tmp 9) rfl rfl rfl (EQ.out w') (run_eqGuard_agg _ _ _ _ _ _ _ (by kernel_rfl))) (hK _ ?_))
  simp only [Act.put, List.setIfInBounds_toArray, List.set_cons_zero, List.set_cons_succ]
  refine wpQuiet_nil ?_
  intro _ hw'
  obtain ⟨⟨dq, osq⟩, hw''⟩ := hw'
  subst hw''
  have lk := below_regrown W dq osq
  have q1 := r1 dq osq
  have q2 := r2 dq osq
  generalize grow (redrawn W dq) osq = W2 at *
  clear r1 r2
  go_wp2_with fail
  go_ret
  have hown := World.ownsRow_lit (base := w.heap.size) (e := 37) (size := 2) W2 #[.int .i64 0, .int .i64 64] 1 (Nat.le_trans hW.size lk.size) (by unfold maxLen; omega) rfl
  exact ⟨_, rfl, hown, below_alloc (below_next hW lk) _⟩

set_option maxHeartbeats 4000000 in
theorem of_some (bs : List Bool) (hl : bs.length = 64) (ha : allK bs 64 = false) (w : World) : Calls Try.prog 28 #[.agg ⟨bs.map Value.bool⟩] w (MadeArcs w (ofL bs)) := by
  have hp : ofL bs = ofK bs 64 := by unfold ofL; rw [if_neg (by rw [ha]; simp)]
  rw [hp]
  have he : (bs == trues) = false := (all_true bs hl).trans ha
  have CH := Lib.hid held_whole
  have EQ := Lib.hid (fun w => eql_arr bs trues hl trues_length w)
  rw [he] at EQ
  have HL := Lib.hid hl
  clear hp ha he hl
  go_enter Try.func28, Try.ntmps28
  go_wp2_with fail
  have hW : Below w.heap.size w ((w.alloc (.cells ⟨bs.map Value.bool⟩ 60)).alloc (.cells #[.int .i64 0, .int .i64 64] 37)) := below_alloc (below_alloc (Below.refl _ _) _) _
  have hrow := (Row.new w 60 bs).alloc (.cells #[.int .i64 0, .int .i64 64] 37)
  have m1 := (Holds.nil (w.alloc (.cells ⟨bs.map Value.bool⟩ 60))).new2 (.int .i64 0) (.int .i64 64) 37
  obtain ⟨g1, g2, g3⟩ := m1.two
  clear m1
  simp only [World.size_alloc] at g1 g2 g3
  generalize (w.alloc (.cells ⟨bs.map Value.bool⟩ 60)).alloc (.cells #[.int .i64 0, .int .i64 64] 37) = W at *
  have HROW := Lib.hid hrow; clear hrow
  have r1 := cell_regrown g1
  have r2 := cell_regrown g2
  refine wp_region_quiet_below (by kernel_rfl) (by kernel_rfl) ?_
  refine BigFrame.wpQuiet_want (by rfl) (fun K hK => quiet_value _ (fun w' hw' => exec_load 60 (.tmp 1) rfl rfl (arr_row w' (HROW.out.regrown hw') HL.out)) (hK _ ?_))
  simp only [Act.put, List.setIfInBounds_toArray, List.set_cons_zero, List.set_cons_succ]
  go_big_quiet_step (fail)
  go_big_quiet_step (exact CH.out.re _ _ _)
  refine BigFrame.wpQuiet_want (by rfl) (fun K hK => quiet_value _ (fun w' hw' => exec_bin .eql 60 60 (.tmp 7) (.tmp 9) rfl rfl rfl (EQ.out w') (run_eqGuard_agg _ _ _ _ _ _ _ (by kernel_rfl))) (hK _ ?_))
  simp only [Act.put, List.setIfInBounds_toArray, List.set_cons_zero, List.set_cons_succ]
  refine wpQuiet_nil ?_
  intro _ hw'
  obtain ⟨⟨dq, osq⟩, hw''⟩ := hw'
  subst hw''
  have lk := below_regrown W dq osq
  have q1 := r1 dq osq
  have q2 := r2 dq osq
  have hrow2 := HROW.out.keep lk
  have hwb := below_next hW lk
  have hA : w.heap.size < (grow (redrawn W dq) osq).heap.size := hrow2.lt
  generalize grow (redrawn W dq) osq = W2 at *
  have HROW2 := Lib.hid hrow2; clear hrow2
  clear r1 r2 q1 q2 HROW lk hW CH EQ g1 g2 g3
  obtain ⟨i0, hi, hz0, hz1, hz2⟩ := info_parts arc_info
  have HI := Lib.hid hi; have HZ0 := Lib.hid hz0; have HZ1 := Lib.hid hz1; have HZ2 := Lib.hid hz2
  clear hi hz0 hz1 hz2
  go_wp2_with fail
  go_loopw [4, 13] (fun v i wr => ∃ k : Nat, k ≤ 64 ∧ i = .int .i64 (k : Int) ∧ wr.ownsRow W2.heap.size 37 2 v (ofK bs k).length (acells (ofK bs k)) ∧ Below W2.heap.size W2 wr) (fun _ i _ => 64 - (intOf i).toNat)
  case atStart => exact ⟨0, Nat.zero_le _, rfl, World.ownsRow_nil _ _ _ _, Below.refl _ _⟩
  case round =>
    obtain ⟨k, hk, rfl, hown, hb⟩ := hrel
    have HOWN := Lib.hid hown; clear hown
    by_cases hlt : k < 64
    · have hrow := HROW2.out.below hb hA
      have hc := hrow.in HL.out k hlt
      have HS := Lib.hid (show startB bs k = (inB bs k && !inB bs ((k + 63) % 64)) from rfl)
      cases hv : inB bs k
      · rw [hv] at hc
        have HV := Lib.hid hv; clear hv hrow
        go_wp2_with fail
        go_roundw
        case rel => exact ⟨k + 1, by omega, by go_num, by rw [ofK_no (by rw [HS.out, HV.out]; rfl)]; exact HOWN.out, hb⟩
        case measure => simp [intOf]; omega
      · rw [hv] at hc
        have HV := Lib.hid hv; clear hv
        have C1 := Lib.hid (further_nat k 63 hlt (by omega))
        have hq : (k + 63) % 64 < 64 := Nat.mod_lt _ (by omega)
        have hcq := hrow.in HL.out ((k + 63) % 64) hq
        generalize (k + 63) % 64 = q at *
        cases hvq : inB bs q
        · rw [hvq] at hcq
          have HVQ := Lib.hid hvq; clear hvq
          have hll := Lib.hid (arr_row wr hrow HL.out)
          clear hrow
          have CR := Lib.hid (run_any bs HL.out k hlt)
          have HY := Lib.hid (ofK_yes (bs := bs) (k := k) (by rw [HS.out, HV.out, HVQ.out]; rfl))
          have hle := ofK_length bs k
          have hrl := runN_le bs k
          generalize runN bs k = R at *
          go_wp2_with fail
          refine (C1.out _).mono ?_
          rintro e w3 ⟨rfl, rfl⟩
          go_wp2_with (refine wpList_value rfl _ (exec_load 60 (.tmp 1) rfl rfl hll.out) ?_)
          refine (CR.out _).mono ?_
          rintro e w3 ⟨rfl, l3⟩
          have hb3 := below_next hb l3
          have hown3 := own_keep HOWN.out l3
          clear hb l3 HOWN hc hcq
          go_wp2_with (at_builtin; refine wpList_append_own _ rfl (.tmp 26) (.tmp 32) 41 rfl W2.heap.size 37 i0 (.agg #[.int .i64 0, .int .i64 0]) 2 16 Try.underlying41 HI.out HZ0.out HZ1.out HZ2.out rfl (by omega) _ (ofK bs k).length _ rfl (hown3.alloc _) ⟨w3.heap.size, 0, none⟩ 1 1 [.int .i64 (k : Int), .int .i64 (R : Int)] rfl rfl (cell_two_new _ _ _ _) (two_ints _ _) (by unfold maxLen; omega) (by omega) (by have := hb3.size; simp; omega) ?_; intro v4 w4 hown4 hgrow4 _)
          have b4 : Below W2.heap.size W2 w4 := (hb3.alloc hb3.size _).grown hgrow4 (by have := hb3.size; simp; omega) (fun g hg => (hown3.lt g hg).1)
          clear hown3 hb3 hgrow4
          go_wp2_with fail
          go_roundw
          case rel => exact ⟨k + 1, by omega, by go_num, by rw [HY.out, acells_append, List.length_append]; exact hown4, b4⟩
          case measure => simp [intOf]; omega
        · rw [hvq] at hcq
          have HVQ := Lib.hid hvq; clear hvq hrow
          go_wp2_with fail
          refine (C1.out _).mono ?_
          rintro e w3 ⟨rfl, rfl⟩
          go_wp2_with fail
          go_roundw
          case rel => exact ⟨k + 1, by omega, by go_num, by rw [ofK_no (by rw [HS.out, HV.out, HVQ.out]; rfl)]; exact HOWN.out, hb⟩
          case measure => simp [intOf]; omega
    · obtain rfl : k = 64 := by omega
      go_wp2_with fail
      go_ret
      exact ⟨_, rfl, own_base HOWN.out hwb.size, hwb.trans (hb.mono hwb.size)⟩

theorem of_any (bs : List Bool) (hl : bs.length = 64) (w : World) : Calls Try.prog 28 #[.agg ⟨bs.map Value.bool⟩] w (MadeArcs w (ofL bs)) := by
  cases ha : allK bs 64
  · exact of_some bs hl ha w
  · exact of_all bs hl ha w

end Go.Proofs.Ytikeiocgnjdhbaa
