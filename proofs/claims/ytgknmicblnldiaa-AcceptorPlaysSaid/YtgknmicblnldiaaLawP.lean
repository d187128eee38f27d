/- AcceptorPlays. -/
import Derived.Test.YtgknmicblnldiaaStp
import Derived.Deep.CutRange
namespace Go.Proofs.Ytgknmicblnldiaa
open Go.RowKit Go.Sort
set_option linter.unusedVariables false

theorem Tw.start {W0 w : World} {hA gA m : Nat} (h1 : 1 ≤ m) (h2 : m ≤ 4096) (t : TabW w W0.heap.size hA gA m 0 fn0) (b : Below W0.heap.size W0 w) :
    Tw W0 (w.alloc (.cells #[.int .i64 (m : Int), .slice none 0 0] 31)) hA gA m w.heap.size [] := by
  have b1 := below_alloc (Below.refl w.heap.size w) (.cells #[.int .i64 (m : Int), .slice none 0 0] 31)
  refine ⟨[w.heap.size], t.below b1, ⟨none, 0, rfl, heap_alloc_new w _, World.ownsRow_nil _ _ _ _, b.size, by simp [blk], List.Pairwise.nil, by simp, h2⟩, ?_, b.trans (b1.mono b.size)⟩
  have h3 := t.hlt; have h4 := t.map.lt
  simp only [List.mem_singleton]
  omega
theorem Tw.below {W0 w w' : World} {hA gA most hb : Nat} {S : List En} (h : Tw W0 w hA gA most hb S) (b : Below w.heap.size w w') : Tw W0 w' hA gA most hb S := by
  obtain ⟨Bs, h⟩ := h
  exact ⟨Bs, h.below b⟩
theorem Tw.bel {W0 w : World} {hA gA most hb : Nat} {S : List En} (h : Tw W0 w hA gA most hb S) : Below W0.heap.size W0 w := by
  obtain ⟨Bs, h⟩ := h
  exact h.bel
set_option maxRecDepth 100000 in
set_option maxHeartbeats 16000000 in
theorem acceptorPlays_law (room : Int) (wroom : (Lit.int .i64 room).wf = true) (ao : Option Addr) (len cap : Nat) (hc : len ≤ cap) (hm : cap ≤ maxLen) (W : World) (hr : OpsRd W ao len) :
    Calls Try.prog 3 #[.int .i64 room, .slice ao len cap] W (LawOk W) := by
  have HR := Lib.hid hr
  have hlen : (len : Int) ≤ 9223372036854775807 := by unfold maxLen at hm; omega
  clear hr hc hm wroom
  by_cases hg : 1 ≤ room ∧ room ≤ 4096
  · obtain ⟨m, rfl⟩ : ∃ m : Nat, room = m := ⟨room.toNat, by omega⟩
    have HM := Lib.hid (show 1 ≤ m ∧ m ≤ 4096 by omega)
    have HN := Lib.hid (fun w => new_yes m HM.out.1 HM.out.2 w)
    have hm1 : (1 : Int) ≤ (m : Int) := by omega
    have hm2 : (m : Int) ≤ 4096 := by omega
    clear hg
    go_enter Try.func3, Try.ntmps3
    go_wp2_with fail
    refine (HN.out _).mono ?_; rintro e w1 ⟨hA, gA, rfl, t1, b1⟩
    have T1 := Lib.hid t1; have B1 := Lib.hid b1
    clear t1 b1 HN
    go_wp2_with fail
    refine (alive_any _).mono ?_; rintro e w2 ⟨rfl, b2⟩
    have HT := Lib.hid (Tw.start HM.out.1 HM.out.2 (T1.out.below b2) (below_next B1.out b2))
    clear b2 T1 B1
    go_upto_region 6 with (fail)
    generalize w2.alloc (.cells #[.int .i64 (m : Int), .slice none 0 0] 31) = w3 at *
    generalize w2.heap.size = hb at *
    go_wp2_with fail
    go_loopw [9] (fun v9 wr => ∃ (k : Nat) (S : List En), v9 = .int .i64 (k : Int) ∧ k ≤ len ∧ k ≤ 300 ∧ Tw W wr hA gA m hb S) (fun v9 _ => len - (intOf v9).toNat)
    case atStart => exact ⟨0, [], rfl, by omega, by omega, HT.out⟩
    case round =>
      obtain ⟨k, S, rfl, hk1, hk2, hT⟩ := hrel
      clear HT
      by_cases hlt : k < len ∧ k < 300
      · obtain ⟨g, o, q, hao, hq, hg, hat⟩ := HR.out k hlt.1
        obtain ⟨g', o', q', hao', hq', hg', hat'⟩ := HR.out 0 (by omega)
        subst hao
        cases hao'
        have hlt1 : (k : Int) < (len : Int) := by omega
        have hlt2 : (k : Int) < 300 := by omega
        have hlt3 : (0 : Int) < (len : Int) := by omega
        have hkp : (0 : Int) ≤ (k : Int) := by omega
        obtain ⟨a1, a2, a3, a4, a5, a6, a7, a8⟩ := OpAt.below hat hg hT.bel
        have HS := Lib.hid (fun w (T : Tw W w hA gA m hb S) => step_any q hq w T)
        have HTT := Lib.hid hT
        clear hT
        go_wp2_with fail
        refine (HS.out _ HTT.out).mono ?_; rintro e w4 ⟨rfl, S2, hT2⟩
        obtain ⟨_, _, _, _, _, x0, x1, _⟩ := OpAt.below hat hg hT2.bel
        obtain ⟨_, _, _, _, _, y0, y1, _⟩ := OpAt.below hat' hg hT2.bel
        simp only [Nat.zero_mul, Nat.add_zero] at y0 y1
        obtain ⟨Bs, hT3⟩ := hT2
        obtain ⟨ao2, cap2, _, hR⟩ := hT3.rf
        have c1 := hR.at1
        have HT2 := Lib.hid hT3
        have CN := Lib.hid (fun d os => Calls.regrown_of (same_below (count_any _ (hT3.ta.below (below_regrown w4 d os)))))
        have C1 := Lib.hid (show Ret _ _ _ from fun w => less_any q.b q'.b w)
        have C2 := Lib.hid (show Ret _ _ _ from fun w => rless_any q.b q'.b w)
        generalize low q.b q'.b = lo at *
        have x0 := cell_regrown x0; have x1 := cell_regrown x1; have y0 := cell_regrown y0; have y1 := cell_regrown y1; have c1 := cell_regrown c1
        have hgl : g < w4.heap.size := Nat.lt_of_lt_of_le hg hT3.bel.size
        have E : ∀ w, (binOp .neq 4 (.bool lo) (.bool lo)).run Try.prog w = .ok (.bool false) w := fun w => by cases lo <;> kernel_rfl
        clear hR hT3 HTT HS a1 a2 a3 a4 a5 a6 a7 a8 hat hat'
        generalize hS2 : S2.length = n2 at *
        have HS2 := Lib.hid hS2
        clear hS2
        go_wp2_with fail
        refine wp_region_quiet_below (by kernel_rfl) (by kernel_rfl) ?_
        repeat (go_big_quiet_step (first | exact CN.out _ _ | exact C1.out.re _ _ _ | exact C2.out.re _ _ _))
        refine wpQuiet_nil ?_
        intro _ hw'
        obtain ⟨⟨dq, osq⟩, hw''⟩ := hw'
        subst hw''
        have HT5 := Lib.hid (HT2.out.below (below_regrown w4 dq osq))
        have HLN := Lib.hid (trivial : True)
        clear x0 x1 y0 y1 c1 CN C1 C2 E
        generalize grow (redrawn w4 dq) osq = w5 at *
        go_wp2_with fail
        go_roundw
        case rel => exact ⟨k + 1, S2, by go_num, by omega, by omega, Bs, by rw [HS2.out]; exact HT5.out⟩
        case measure => simp [intOf]; omega
      · have HB := Lib.hid hT.bel
        clear hT
        by_cases h1 : k < len
        · have hd1 : (k : Int) < (len : Int) := by omega
          have hd2 : ¬ (k : Int) < 300 := by omega
          clear hlt
          go_wp2_with fail
          go_ret
          exact ⟨rfl, HB.out⟩
        · have hd1 : ¬ (k : Int) < (len : Int) := by omega
          clear hlt
          go_wp2_with fail
          go_ret
          exact ⟨rfl, HB.out⟩
  · have HN := Lib.hid (fun w => new_no room hg w)
    by_cases hr1 : room < 1
    · have e1 : decide (1 ≤ room) = false := by simp; omega
      clear hg
      go_enter Try.func3, Try.ntmps3
      go_wp2_with fail
      refine (HN.out _).mono ?_; rintro e w1 ⟨rfl, rfl⟩
      go_wp2_with fail
      refine (alive_any _).mono ?_; rintro e w2 ⟨rfl, b2⟩
      have HB := Lib.hid (below_alloc b2 (.cells #[.int .i64 room, .slice none 0 0] 31))
      clear b2 HN
      go_upto_region 6 with (fail)
      generalize w2.alloc (.cells #[.int .i64 room, .slice none 0 0] 31) = w3 at *
      go_wp2_with fail
      go_loopw [9] (fun v9 wr => v9 = .int .i64 0 ∧ wr = w3) (fun _ _ => 0)
      case atStart => exact ⟨rfl, rfl⟩
      case round =>
        obtain ⟨rfl, rfl⟩ := hrel
        by_cases hl : len = 0
        · subst hl
          go_wp2_with fail
          go_ret
          exact ⟨rfl, HB.out⟩
        · have hl2 : (0 : Int) < (len : Int) := by omega
          go_wp2_with fail
          go_ret
          exact ⟨rfl, HB.out⟩
    · have e1 : decide (1 ≤ room) = true := by simp; omega
      have e2 : decide (room ≤ 4096) = false := by simp; omega
      clear hg
      go_enter Try.func3, Try.ntmps3
      go_wp2_with fail
      refine (HN.out _).mono ?_; rintro e w1 ⟨rfl, rfl⟩
      go_wp2_with fail
      refine (alive_any _).mono ?_; rintro e w2 ⟨rfl, b2⟩
      have HB := Lib.hid (below_alloc b2 (.cells #[.int .i64 room, .slice none 0 0] 31))
      clear b2 HN
      go_upto_region 6 with (fail)
      generalize w2.alloc (.cells #[.int .i64 room, .slice none 0 0] 31) = w3 at *
      go_wp2_with fail
      go_loopw [9] (fun v9 wr => v9 = .int .i64 0 ∧ wr = w3) (fun _ _ => 0)
      case atStart => exact ⟨rfl, rfl⟩
      case round =>
        obtain ⟨rfl, rfl⟩ := hrel
        by_cases hl : len = 0
        · subst hl
          go_wp2_with fail
          go_ret
          exact ⟨rfl, HB.out⟩
        · have hl2 : (0 : Int) < (len : Int) := by omega
          go_wp2_with fail
          go_ret
          exact ⟨rfl, HB.out⟩
end Go.Proofs.Ytgknmicblnldiaa
