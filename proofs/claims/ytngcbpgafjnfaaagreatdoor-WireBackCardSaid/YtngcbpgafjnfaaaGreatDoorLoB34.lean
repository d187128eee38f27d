/- A message's readings: out of a row that lies; a zero message; a variable that is laid. Wrap and Unwrap of the document's answer. -/
import Derived.Test.YtngcbpgafjnfaaaGreatDoorLoB29
import Derived.Test.YtngcbpgafjnfaaaGreatDoorLoB33
import Derived.Laws.Tables
import Derived.Test.YtngcbpgafjnfaaaGreatDoorLoB15
set_option linter.unusedSimpArgs false
set_option linter.unusedVariables false

namespace Go.Proofs.YtngcbpgafjnfaaaGreatDoor
open Go.RowKit Go.Sort
set_option linter.unusedVariables false

theorem SlIn.move {w w' : World} {N P : Nat → Prop} {cs : List Value} (hs : Safe P w w') (hN : ∀ b, N b → P b) : ∀ {L : List Slot}, SlIn w N cs L → AllFine L → SlIn w' N cs L
  | [], _, _ => trivial
  | s :: L, h, hf => ⟨hf.1.safe _ _ _ _ _ h.1 hs hN, SlIn.move hs hN h.2 hf.2⟩
theorem SlIn.wide {w : World} {N M : Nat → Prop} {cs : List Value} (hm : ∀ b, N b → M b) : ∀ {L : List Slot}, SlIn w N cs L → AllFine L → SlIn w M cs L
  | [], _, _ => trivial
  | s :: L, h, hf => ⟨hf.1.mono _ _ _ _ h.1 hm, SlIn.wide hm h.2 hf.2⟩
theorem SlIn.grow {w w' : World} {cs : List Value} {L : List Slot} (h : SlIn w (Here w) cs L) (hf : AllFine L) (b : Below w.heap.size w w') : SlIn w' (Here w') cs L :=
  (h.move (here_safe b) (fun _ h => h) hf).wide (fun k hk => Nat.lt_of_lt_of_le hk b.size) hf
/-- the parts that lie in a row are the row's -/
theorem Slots.ins {w : World} {N : Nat → Prop} {g : Nat} {cs : Array Value} {T : TypeId} (hrow : w.heap[g]? = some (.cells cs T (0, 0))) : ∀ {L : List Slot}, Slots w N g 0 L → AllFine L → SlIn w N cs.toList L
  | [], _, _ => trivial
  | s :: L, ⟨⟨part, hp, hc⟩, h2⟩, hf => by
    refine ⟨?_, Slots.ins hrow h2 hf.2⟩
    have hl := hf.1.size _ _ _ hp
    have e : (cs.toList.drop s.off).take s.sz = part := by
      apply List.ext_getElem?
      intro j
      rw [List.getElem?_take]
      by_cases hj : j < s.sz
      · rw [if_pos hj, List.getElem?_drop]
        obtain ⟨u, hu⟩ : ∃ u, part[j]? = some u := ⟨part[j]'(by omega), List.getElem?_eq_getElem (by omega)⟩
        have h3 := hc j u hu
        rw [cell_of_row w g _ cs T (0, 0) hrow, Nat.zero_add, ← Array.getElem?_toList] at h3
        rw [h3, hu]
      · rw [if_neg hj, List.getElem?_eq_none (by omega)]
    rw [e]; exact hp
theorem nought_in (w : World) (N : Nat → Prop) : SlIn w N (noughtCs 0 0 0).toList (slotsOf (nought 0 0 0)) :=
  ⟨⟨rfl, (show I64 0 by unfold I64; omega)⟩, ⟨rfl, (show I64 0 by unfold I64; omega)⟩, ⟨rfl, (show I64 0 by unfold I64; omega)⟩, ⟨[.int .u64 0], [.int .i64 0], [.int .i64 0], [.int .u32 0], rfl, z_nat .u64 8 18446744073709551615 w N, z_int 1 63 w N, z_int 1 3 w N, z_nat .u32 4 4294967295 w N⟩, ⟨[.int .u32 0], [.int .u8 0], rfl, z_nat .u32 4 4294967295 w N, z_nat .u8 1 255 w N⟩, ⟨[.bool false], [.int .u32 0, .int .u8 0], [.string ByteArray.empty], rfl, z_flag w N, ⟨[.int .u32 0], [.int .u8 0], rfl, z_nat .u32 4 4294967295 w N, z_nat .u8 1 255 w N⟩, z_text 64 w N⟩, z_text 64 w N, ⟨[.int .u64 0], [.int .i64 0], [.int .i64 0, .int .i64 0, .int .i64 0], [.slice none 0 0], rfl, z_nat .u64 8 18446744073709551615 w N, z_int 4 2147483647 w N, z_mans w N, z_list itmK 8 w N⟩, z_nat .u64 8 18446744073709551615 w N, z_nat .u32 4 4294967295 w N, z_nat .u32 4 4294967295 w N, z_int 1 63 w N, z_int 1 3 w N, z_int 1 3 w N, z_nat .u32 4 4294967295 w N, z_int 1 2 w N, ⟨[.int .u32 0], [.int .u32 0], [.int .u32 0], [.slice none 0 0], rfl, z_nat .u32 4 4294967295 w N, z_nat .u32 4 4294967295 w N, z_nat .u32 4 4294967295 w N, z_list entK 8 w N⟩, ⟨[.int .i64 0], [.int .u32 0], [.int .u32 0], [.slice none 0 0], [.slice none 0 0], [.int .u32 0, .int .u32 0, .int .u32 0, .int .u32 0], [.slice none 0 0], rfl, z_int 1 2 w N, z_nat .u32 4 4294967295 w N, z_nat .u32 4 4294967295 w N, z_list entK 8 w N, z_list lckK 64 w N, z_incs w N, z_list vtdK 64 w N⟩, ⟨[.int .i64 0], [.int .i64 0], rfl, z_int 1 63 w N, z_int 1 64 w N⟩, z_list cpyK 64 w N, ⟨[.int .u64 0], [.int .u64 0], rfl, z_nat .u64 8 18446744073709551615 w N, z_nat .u64 8 18446744073709551615 w N⟩, z_int 1 255 w N, z_list perK 12 w N, trivial⟩
theorem SlIn.kind {w : World} {N : Nat → Prop} {cs : List Value} {m : Ms} (h : SlIn w N cs (slotsOf m)) : cs[0]? = some (.int .i64 m.kind) := by
  obtain ⟨⟨h1, _⟩, _⟩ := h
  have h2 : cs.take 1 = [.int .i64 m.kind] := h1
  have h3 := congrArg (·[0]?) h2
  simpa [List.getElem?_take] using h3

/-- a variable of type api.Msg is laid and stored: its row -/
theorem wpList_var_row {w : World} {ops : Array Oper} {rest : List Oper} {o1 o2 : Oper} {a : Act} {Q : Exit → Act → World → Prop} (hg1 : o1.guard = none) (ho1 : o1.op = .alloc 52) (hg2 : o2.guard = none) (p x : Operand) (ho2 : o2.op = .store 52 p x) (hd2 : o2.dst = none)
    (hp : (a.put o1.dst (.pointer (some ⟨w.heap.size, 0, none⟩))).eval p = .pointer (some ⟨w.heap.size, 0, none⟩)) (cs : Array Value) (hx : (a.put o1.dst (.pointer (some ⟨w.heap.size, 0, none⟩))).eval x = .agg cs) (hz : cs.size = 49) (hone : cs.all (·.oneCell') = true)
    (h : ∀ w', Below w.heap.size w w' → w'.heap.size = w.heap.size + 1 → w'.heap[w.heap.size]? = some (.cells cs 52 (0, 0)) → wpList Tryz.prog ops Q rest (a.put o1.dst (.pointer (some ⟨w.heap.size, 0, none⟩))) w') : wpList Tryz.prog ops Q (o1 :: o2 :: rest) a w := by
  refine wpList_alloc_msg hg1 ho1 fun w' hw => ?_
  subst hw
  have hrow := heap_alloc_new w (.cells (noughtCs 0 0 0) 52)
  refine wpList_store_row hg2 52 p x ho2 w.heap.size cs hp hx 52 (noughtCs 0 0 0) hrow (by rw [hz]; exact msg_size) (by rw [hz]; rfl) hone ?_
  rw [hd2]
  exact h _ ((below_alloc (Below.refl _ _) _).trans ((Keep.setRow _ w.heap.size cs).below (by simp) (by simp))) (by simp) (setRow_heap _ _ _ _ _ _ hrow)
theorem wpList_zero_msg {w : World} {ops : Array Oper} {rest : List Oper} {o : Oper} {a : Act} {Q : Exit → Act → World → Prop} (hgd : o.guard = none) (ho : o.op = .build 52 #[])
    (h : wpList Tryz.prog ops Q rest (a.put o.dst (.agg (noughtCs 0 0 0))) w) : wpList Tryz.prog ops Q (o :: rest) a w := by
  refine wpList_plain hgd fun K hK => ?_
  have hrun : (execOp a.eval o).run Tryz.prog w = .ok (.value (.agg (noughtCs 0 0 0))) w := by
    unfold execOp
    simp only [ho]
    kernel_rfl
  unfold Oper.wp
  simp only [hrun, Oper.upon]
  exact hK _ _ h
theorem rsame_any (ao bo : Option Addr) (n m c d : Nat) (l l' : List Nat) (hl : l.length = n) (hl' : l'.length = m) (hn : n ≤ 9223372036854775807) (w : World) (h1 : Rd w ao l) (h2 : Rd w bo l') :
    Calls Tryz.prog 13 #[.slice ao n c, .slice bo m d] w fun e w' => e = .returned (.bool (l == l')) ∧ Below w.heap.size w w' := by
  have S := Lib.hid (same_any ao bo n m c d l l' hl hl' hn w h1 h2)
  clear h1 h2 hl hl'
  go_enter Tryz.func13, Tryz.ntmps13
  go_wp2_with fail
  refine S.out.mono ?_
  rintro e w1 ⟨rfl, b⟩
  go_wp2_with fail
  go_ret
  exact ⟨rfl, b⟩
end Go.Proofs.YtngcbpgafjnfaaaGreatDoor


namespace Go.Proofs.YtngcbpgafjnfaaaGreatDoor
open Go.RowKit Go.Sort
set_option linter.unusedVariables false

theorem num_take4 (l : List Nat) (h : 4 ≤ l.length) : num (l.take 4) = num l := by
  rw [num_eq, num_eq, bt_take (by omega), bt_take (by omega), bt_take (by omega), bt_take (by omega)]

/-- the answer of the document's Wrap -/
def RWrapped (w : World) (l : List Nat) (e : Ending) (w' : World) : Prop :=
  (65536 < l.length ∧ e = .returned (.tuple #[.slice none 0 0, .bool false]) ∧ w' = w) ∨
  (l.length ≤ 65536 ∧ ∃ ao cap, e = .returned (.tuple #[.slice ao (l.length + 10) cap, .bool true]) ∧ Own w' w.heap.size ao (l.length + 10) cap (frameOf l) ∧ Below w.heap.size w w')

set_option maxRecDepth 100000 in
set_option maxHeartbeats 2000000 in
theorem rwrap_any (ao : Option Addr) (n cap : Nat) (l : List Nat) (hl : l.length = n) (hn : n ≤ 9223372036854775807) (w : World) (hr : Rd w ao l) :
    Calls Tryz.prog 17 #[.slice ao n cap] w (RWrapped w l) := by
  by_cases hbig : 65536 < n
  · go_enter Tryz.func17, Tryz.ntmps17
    go_wp2_with fail
    go_ret2
    exact .inl ⟨by omega, rfl, rfl⟩
  · have HR := Lib.hid hr; have HL := Lib.hid hl
    have HF := Lib.hid (show frameOf l = [84, 78] ++ (four n ++ (four (sumOf (sumOf 0 (four n)) l) ++ l)) by rw [← hl]; rfl)
    clear hr hl
    go_enter Tryz.func17, Tryz.ntmps17
    go_wp2_with fail
    refine (four_any n (by omega) _).mono ?_
    rintro e w1 ⟨a1, c1, rfl, o1, b1⟩
    rw [four_length] at o1 ⊢
    have hs1 := b1.size
    have o2 := Own.two w1 w.heap.size 84 78 (by omega) (by omega) hs1
    have b2 := below_alloc b1 (.cells #[u8v 84, u8v 78] 5)
    have o1' := o1.below (below_alloc (Below.refl _ w1) (.cells #[u8v 84, u8v 78] 5))
    go_wp2_with (at_builtin; refine wpList_app rfl (.tmp 14) (.tmp 15) rfl rfl o2 rfl o1'.rd rfl b2.size (by omega) ?_; intro a3 c3 w3 o3 k3 n3)
    have b3 := o2.step b2 b2.size k3
    have o1'' := o1'.keep k3 (by
      intro g hg hm
      have h1 := (o1.lt_size g hg).2
      simp [blk] at hm
      omega)
    clear o1 o1' o2 b1 b2 k3 n3 hs1
    refine (rsum_any 0 (by omega) _ 4 _ (four n) rfl (by omega) w3 o1''.rd).mono ?_
    rintro e w4 ⟨rfl, rfl⟩
    have hs1 := sumOf_lt 0 (four n)
    generalize sumOf 0 (four n) = s1 at *
    go_wp2_with fail
    refine (rsum_any s1 hs1 _ _ _ l HL.out hn w3 (HR.out.below b3)).mono ?_
    rintro e w4 ⟨rfl, rfl⟩
    have hs2 := sumOf_lt s1 l
    generalize sumOf s1 l = s2 at *
    go_wp2_with fail
    refine (four_any s2 hs2 _).mono ?_
    rintro e w4 ⟨a4, c4, rfl, o4, b4⟩
    rw [four_length] at o4 ⊢
    have o3' := o3.below b4
    have b4' := b3.trans (b4.mono b3.size)
    go_wp2_with (first
      | (at_builtin; refine wpList_app rfl (.tmp 17) (.tmp 22) rfl rfl o3' rfl o4.rd rfl b4'.size (by omega) ?_; intro a5 c5 w5 o5 k5 n5; have b5 := o3'.step b4' b4'.size k5; have hr5 := HR.out.below b5; simp only [Nat.reduceAdd] at o5)
      | (at_builtin; refine wpList_app rfl (.tmp 24) (.tmp 25) rfl rfl o5 rfl hr5 HL.out b5.size (by omega) ?_; intro a6 c6 w6 o6 k6 n6; have b6 := o5.step b5 b5.size k6))
    go_ret2
    refine .inr ⟨by rw [HL.out]; omega, ?_⟩
    rw [HL.out, HF.out]
    rw [Nat.add_comm 10 n] at o6
    refine ⟨a6, c6, ?_, by simpa [List.append_assoc] using o6, b6⟩
    rw [Nat.add_comm n 10]; rfl

set_option maxRecDepth 100000 in
set_option maxHeartbeats 2000000 in
theorem runwrap_any (ao : Option Addr) (n cap : Nat) (l : List Nat) (hl : l.length = n) (hn : n ≤ 9223372036854775807) (hc : n ≤ cap) (w : World) (hr : Rd w ao l) :
    Calls Tryz.prog 42 #[.slice ao n cap] w (Unwrapped w l) := by
  by_cases h10 : n < 10
  · have hu := Lib.hid (show unw l = ([], 32) by unfold unw; rw [if_pos (.inl (by omega))])
    clear hr hl
    go_enter Tryz.func42, Tryz.ntmps42
    go_wp2_with fail
    go_ret2
    exact Unwrapped.fails hu.out (Below.refl _ _)
  · obtain ⟨g, o, rfl, hg, hc0⟩ := hr.at_ 0 (by omega)
    obtain ⟨g', o', e', _, hc1⟩ := hr.at_ 1 (by omega)
    cases e'
    have hb0 := hr.byte 0
    have hb1 := hr.byte 1
    rw [Nat.add_zero] at hc0
    by_cases h0 : bt l 0 = 84 ∧ bt l 1 = 78
    · have hw1 := number_any _ 4 (cap - 2) ((l.drop 2).take 4) (by simp; omega) (by omega) w (hr.off 2 4)
      have hw2 := fun d os => Calls.regrown_of (same_below (number_any _ 4 (cap - 6) ((l.drop 6).take 4) (by simp; omega) (by omega) _ ((hr.off 6 4).below (below_regrown w d os))))
      rw [num_take4 _ (by simp; omega)] at hw1
      have hs1 := rsum_regrown (cap := cap - 2) (s := 0) (by omega) (n := 4) (by simp; omega) (by omega) (hr.off 2 4)
      have hs2 := rsum_regrown (cap := cap - 10) (s := sumOf 0 ((l.drop 2).take 4)) (sumOf_lt _ _) (n := n - 10) (l := l.drop 10) (by simp; omega) (by omega) (hr.sh cap 10 (by omega))
      rw [show ((0 : Nat) : Int) = 0 from rfl] at hs1
      have hu0 := Lib.hid (show unw l = if 65536 < num (l.drop 2) then ([], 31) else if n ≠ 10 + num (l.drop 2) then ([], 33) else if num (l.drop 6) ≠ fsum l then ([], 34) else (l.drop 10, 0) by unfold unw; rw [if_neg (by rw [hl]; simp [h0.1, h0.2]; omega), hl])
      have hN := num_lt (l := l.drop 2) (fun j => by rw [bt_drop]; exact hr.byte _)
      have hM := num_lt (l := l.drop 6) (fun j => by rw [bt_drop]; exact hr.byte _)
      have hS := fsum_lt l
      have hse := Lib.hid (show fsum l = sumOf (sumOf 0 ((l.drop 2).take 4)) (l.drop 10) from rfl)
      have hme := Lib.hid (num_take4 (l.drop 6) (by simp; omega))
      rw [h0.1] at hc0
      rw [h0.2] at hc1
      have HR := Lib.hid hr; have HL := Lib.hid hl
      have W1 := Lib.hid hw1; have W2 := Lib.hid hw2; have S1 := Lib.hid hs1; have S2 := Lib.hid hs2
      clear hb0 hb1 h0 hr hl hw1 hw2 hs1 hs2
      rw [hme.out] at W2
      rw [← hse.out] at S2
      clear hme hse
      generalize num (l.drop 2) = N at *
      generalize num (l.drop 6) = M at *
      generalize fsum l = S at *
      generalize sumOf 0 ((l.drop 2).take 4) = s1 at *
      by_cases h1 : 65536 < N
      · have hu := Lib.hid (hu0.out.trans (if_pos h1))
        go_enter Tryz.func42, Tryz.ntmps42
        go_wp2_with fail
        refine W1.out.mono ?_
        rintro e w1 ⟨rfl, rfl⟩
        go_wp2_with fail
        go_ret2
        exact Unwrapped.fails hu.out (Below.refl _ _)
      · have hu1 := Lib.hid (hu0.out.trans (if_neg h1))
        by_cases h2 : n = 10 + N
        · have hu2 := Lib.hid (hu1.out.trans (if_neg (not_not_intro h2)))
          have h2' : 10 + N ≤ n ∧ n ≤ 10 + N := by omega
          obtain ⟨h2a, h2b⟩ := h2'
          clear h2
          have hcut := fun w => run_cut2 w (some ⟨g, o, none⟩) n cap 10 (by omega)
          have HC := Lib.hid hcut; clear hcut
          by_cases h3 : S = M
          · subst h3
            have hu := Lib.hid (hu2.out.trans (if_neg (by simp)))
            go_enter Tryz.func42, Tryz.ntmps42
            go_wp2_with fail
            refine W1.out.mono ?_
            rintro e w1 ⟨rfl, rfl⟩
            go_wp2_with fail
            refine wp_region_quiet_below (by kernel_rfl) (by kernel_rfl) ?_
            go_big_quiet_step (fail)
            go_big_quiet_step (fail)
            go_big_quiet_step (exact S1.out _ _)
            go_big_quiet_step (fail)
            refine BigFrame.wpQuiet_want (by rfl) (fun K hK => quiet_value _ (fun w' hw' => exec_slice 54 (.tmp 34) (some (.const (.int .i64 10))) none rfl rfl rfl rfl (HC.out w')) (hK _ ?_))
            simp only [Act.put, List.setIfInBounds_toArray, List.set_cons_zero, List.set_cons_succ]
            go_big_quiet_step (exact S2.out _ _)
            go_big_quiet_step (fail)
            go_big_quiet_step (fail)
            go_big_quiet_step (exact W2.out _ _)
            go_big_quiet_step (fail)
            refine wpQuiet_nil ?_
            intro _ hw'
            obtain ⟨⟨dq, osq⟩, hw''⟩ := hw'
            subst hw''
            have lk := below_regrown w dq osq
            generalize grow (redrawn w dq) osq = w1 at *
            have hcut := HC.out (w1.alloc (.cells #[] 5))
            have hrd := ((HR.out.below lk).below (below_alloc (Below.refl _ w1) (.cells #[] 5))).sh cap 10 (by rw [HL.out]; exact hc)
            have hll : (l.drop 10).length = n - 10 := by rw [List.length_drop, HL.out]
            go_wp2_with (first
              | (refine wpList_value rfl _ (exec_slice 54 (.tmp 42) (some (.const (.int .i64 10))) none rfl rfl rfl rfl hcut) ?_)
              | (at_builtin; refine wpList_app rfl (.tmp 41) (.tmp 43) rfl rfl (Own.none' w1 w.heap.size lk.size) rfl hrd hll (by simp; exact Nat.le_succ_of_le lk.size) (by omega) ?_; intro a2 c2 w2 o2 k2 n2; simp only [Nat.zero_add, List.nil_append] at o2; have b2 := (Own.none' w1 w.heap.size lk.size).step (below_alloc lk _) (by simp; exact Nat.le_succ_of_le lk.size) k2))
            go_ret2
            unfold Unwrapped
            rw [hu.out]
            show ∃ ao cap, _ = Ending.returned (.tuple #[.slice ao (l.drop 10).length cap, .int .i64 0]) ∧ Own _ _ ao (l.drop 10).length cap (l.drop 10) ∧ _
            rw [List.length_drop, HL.out]
            exact ⟨a2, c2, rfl, o2, b2⟩
          · have hu := Lib.hid (hu2.out.trans (if_pos (Ne.symm h3)))
            go_enter Tryz.func42, Tryz.ntmps42
            go_wp2_with fail
            refine W1.out.mono ?_
            rintro e w1 ⟨rfl, rfl⟩
            go_wp2_with fail
            refine wp_region_quiet_below (by kernel_rfl) (by kernel_rfl) ?_
            go_big_quiet_step (fail)
            go_big_quiet_step (fail)
            go_big_quiet_step (exact S1.out _ _)
            go_big_quiet_step (fail)
            refine BigFrame.wpQuiet_want (by rfl) (fun K hK => quiet_value _ (fun w' hw' => exec_slice 54 (.tmp 34) (some (.const (.int .i64 10))) none rfl rfl rfl rfl (HC.out w')) (hK _ ?_))
            simp only [Act.put, List.setIfInBounds_toArray, List.set_cons_zero, List.set_cons_succ]
            go_big_quiet_step (exact S2.out _ _)
            go_big_quiet_step (fail)
            go_big_quiet_step (fail)
            go_big_quiet_step (exact W2.out _ _)
            go_big_quiet_step (fail)
            refine wpQuiet_nil ?_
            intro _ hw'
            obtain ⟨⟨dq, osq⟩, hw''⟩ := hw'
            subst hw''
            have lk := below_regrown w dq osq
            go_wp2_with fail
            go_ret2
            exact Unwrapped.fails hu.out lk
        · have hu := Lib.hid (hu1.out.trans (if_pos h2))
          go_enter Tryz.func42, Tryz.ntmps42
          go_wp2_with fail
          refine W1.out.mono ?_
          rintro e w1 ⟨rfl, rfl⟩
          go_wp2_with fail
          go_ret2
          exact Unwrapped.fails hu.out (Below.refl _ _)
    · have hu := Lib.hid (show unw l = ([], 32) by unfold unw; rw [if_pos (by omega)])
      clear hr hl
      by_cases ha : bt l 0 = 84
      · have hb : ¬ bt l 1 = 78 := fun h => h0 ⟨ha, h⟩
        rw [ha] at hc0
        clear h0 ha
        generalize bt l 1 = x1 at *
        have hb2 : ((x1 : Int) != 78) = true := by simp; omega
        go_enter Tryz.func42, Tryz.ntmps42
        go_wp2_with fail
        go_ret2
        exact Unwrapped.fails hu.out (Below.refl _ _)
      · clear h0
        generalize bt l 0 = x0 at *
        go_enter Tryz.func42, Tryz.ntmps42
        go_wp2_with fail
        go_ret2
        exact Unwrapped.fails hu.out (Below.refl _ _)
end Go.Proofs.YtngcbpgafjnfaaaGreatDoor
