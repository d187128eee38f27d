/- Wrap, of package frame and of the document's answer. What was wrapped is unwrapped; a change within four bytes is refused. Plain lists. -/
import Derived.Test.YtngcbpgafjnfaaaGreatDoorLoB14
set_option linter.unusedSimpArgs false
set_option linter.unusedVariables false

namespace Go.Proofs.YtngcbpgafjnfaaaGreatDoor
open Go.RowKit Go.Sort
set_option linter.unusedVariables false

/-- a body's frame -/
def frameOf (l : List Nat) : List Nat := [84, 78] ++ (four l.length ++ (four (sumOf (sumOf 0 (four l.length)) l) ++ l))
theorem frameOf_length (l : List Nat) : (frameOf l).length = l.length + 10 := by simp [frameOf, four]
theorem four_length (x : Nat) : (four x).length = 4 := rfl

theorem Own.made {w : World} {B g N : Nat} (h : w.ownsRow B 5 1 (.slice (some ⟨g, 0, none⟩) N N) N (madeCells #[.int .u8 0] (N * 1)).toList) : Own w B (some ⟨g, 0, none⟩) N N (List.replicate N 0) := by
  have e : (madeCells #[.int .u8 0] (N * 1)).toList = cs (List.replicate N 0) := by
    simp [madeCells, Nat.mod_one, List.map_const']
  rw [e] at h
  obtain ⟨ao, cap, e1, h1⟩ := Own.of_owns (l := List.replicate N 0) rfl h (by intro c hc; have := List.eq_of_mem_replicate hc; omega)
  cases e1
  exact h1

section
variable {w : World} {B g o n cap : Nat} {l : List Nat}
/-- COPY: over the end of a row of the call's own -/
theorem Own.run_cpy (h : Own w B (some ⟨g, o, none⟩) n cap l) (k : Nat) {xo : Option Addr} {m : Nat} (c : Nat) {ms : List Nat} (hx : Rd w xo ms) (hm : ms.length = m) (hn : k + m = n) (d : Option Addr) (hd : m ≠ 0 → d = some ⟨g, o + k, none⟩) (c' : Nat) (ty : TypeId) :
    ∃ w', (Builtin.copy_ #[54, 54] ty #[.slice d m c', .slice xo m c]).run Tryz.prog w = .ok (goInt m) w' ∧ Own w' B (some ⟨g, o, none⟩) n cap (l.take k ++ ms) ∧ Keep [g] w w' := by
  have hs : (Tryz.prog.info? 5).map (·.size) = some 1 := by kernel_rfl
  have hlen := h.len
  have hle := h.le
  by_cases h0 : m = 0
  · subst h0
    obtain rfl : ms = [] := List.eq_nil_of_length_eq_zero hm
    refine ⟨w, run_copy_none w _ _ ty 5 d xo 0 c' 0 c Tryz.underlying54 hs rfl, ?_, Keep.refl _ _⟩
    rw [List.append_nil, List.take_of_length_le (by omega)]
    exact h
  · obtain rfl := hd h0
    obtain ⟨gx, ox, rfl, _, _⟩ := hx.at_ 0 (by omega)
    have hnews : ∀ j u, (cs ms)[j]? = some u → w.cell? ((⟨gx, ox, none⟩ : Addr).add j) = some u := by
      intro j u hu
      obtain ⟨hj, rfl⟩ := cs_at hu
      obtain ⟨g, o, e, _, h3⟩ := hx.at_ j hj
      cases e
      rw [Addr.add_lit]; exact h3
    obtain ⟨g', o', row, e, hbg, hg, hfit, hrow⟩ := h.row _ rfl
    cases e
    have hr := run_copy_row (P := Tryz.prog) w 54 54 ty 5 g (o + k) m c' ⟨gx, ox, none⟩ m c row 5 (cs ms) Tryz.underlying54 hs hg (by simp [hm]) hnews (by simp; omega) (cs_one _)
    have hcl : (cs ms).length = m := by simpa using hm
    rw [hcl] at hr
    refine ⟨_, hr, ⟨by simp; omega, hle, h.max, fun c hc => by rcases List.mem_append.1 hc with h1 | h1; exact h.lt c (List.mem_of_mem_take h1); exact hx.lt c h1, by simp, fun a ha => ?_⟩, Keep.setRow _ _ _⟩
    cases ha
    refine ⟨g, o, _, rfl, hbg, setRow_heap w g row _ _ _ hg, by simp; omega, fun j hj => ?_⟩
    rw [List.getElem?_toArray, List.append_assoc]
    by_cases hjk : j < k
    · rw [bt_append_left (by simp; omega), bt_take hjk, List.getElem?_append_left (by simp; omega), List.getElem?_take, if_pos (by omega), Array.getElem?_toList]
      exact hrow j hj
    · rw [List.getElem?_append_right (by simp; omega), List.getElem?_append_left (by simp; omega), bt_append_right (by simp; omega), List.getElem?_map]
      have e1 : o + j - (List.take (o + k) row.toList).length = j - k := by simp; omega
      have e2 : j - (l.take k).length = j - k := by simp; omega
      rw [e1, e2, bt_get (by omega)]
      rfl
end
theorem wpList_cpy {w : World} {ops : Array Oper} {rest : List Oper} {op : Oper} {a : Act} {Q : Exit → Act → World → Prop} (hgd : op.guard = none) (s x : Operand)
    (ho : op.op = .call { callee := .builtin .copy, args := #[s, x], argTypes := #[54, 54] })
    {B g o n cap : Nat} {l : List Nat} (k : Nat) {d : Option Addr} {c' : Nat} {xo : Option Addr} {m c : Nat} {ms : List Nat} (hs : a.eval s = .slice d m c') (hown : Own w B (some ⟨g, o, none⟩) n cap l)
    (hd : m ≠ 0 → d = some ⟨g, o + k, none⟩) (hx : a.eval x = .slice xo m c) (hrd : Rd w xo ms) (hm : ms.length = m) (hn : k + m = n)
    (h : ∀ w', Own w' B (some ⟨g, o, none⟩) n cap (l.take k ++ ms) → Keep [g] w w' → wpList Tryz.prog ops Q rest (a.put op.dst (goInt m)) w') : wpList Tryz.prog ops Q (op :: rest) a w := by
  obtain ⟨w', hr, h2, h3⟩ := hown.run_cpy k c hrd hm hn d hd c' op.type
  refine wpList_plain hgd fun K hK => ?_
  unfold Oper.wp execOp
  simp only [ho, resolve, invoke, builtin, Sem.run_bind, Sem.run_pure, Result.andThen_ok, List.map_toArray, List.map_cons, List.map_nil, hs, hx, hr]
  exact hK _ _ (h w' h2 h3)

/-- what Wrap lays down, crcStep by crcStep -/
theorem wrap_list (l : List Nat) : ∃ L1 L2 L3 : List Nat, L1 = ((List.replicate (l.length + 10) 0).set 0 84).set 1 78 ∧ L2 = put L1 2 l.length ∧ L3 = L2.take 10 ++ l ∧ put L3 6 (fsum L3) = frameOf l ∧ L1.length = l.length + 10 ∧ L2.length = l.length + 10 ∧ L3.length = l.length + 10 := by
  have e : List.replicate (l.length + 10) 0 = 0 :: 0 :: 0 :: 0 :: 0 :: 0 :: 0 :: 0 :: 0 :: 0 :: List.replicate l.length 0 := by simp [List.replicate_succ]
  refine ⟨_, _, _, rfl, rfl, rfl, ?_, ?_, ?_, ?_⟩
  · rw [e]
    simp [put, four, frameOf, fsum]
  · simp
  · rw [put_length (by simp)]; simp
  · simp [put, four]; omega

/-- the answer of the code's Wrap -/
def Wrapped (w : World) (l : List Nat) (e : Ending) (w' : World) : Prop :=
  (65536 < l.length ∧ e = .returned (.tuple #[.slice none 0 0, .int .i64 31]) ∧ w' = w) ∨
  (l.length ≤ 65536 ∧ ∃ ao cap, e = .returned (.tuple #[.slice ao (l.length + 10) cap, .int .i64 0]) ∧ Own w' w.heap.size ao (l.length + 10) cap (frameOf l) ∧ Below w.heap.size w w')

set_option maxRecDepth 100000 in
set_option maxHeartbeats 2000000 in
theorem wrap_any (ao : Option Addr) (n cap : Nat) (l : List Nat) (hl : l.length = n) (hn : n ≤ 9223372036854775807) (w : World) (ht : Tab w) (hr : Rd w ao l) :
    Calls Tryz.prog 33 #[.slice ao n cap] w (Wrapped w l) := by
  by_cases hbig : 65536 < n
  · go_enter Tryz.func33, Tryz.ntmps33
    go_wp2_with fail
    go_ret2
    exact .inl ⟨by omega, rfl, rfl⟩
  · obtain ⟨L1, L2, L3, e1, e2, e3, e4, n1, n2, n3⟩ := wrap_list l
    rw [hl] at e1 e2 n1 n2 n3
    have HT := Lib.hid ht; have HR := Lib.hid hr; have HL := Lib.hid hl
    have E1 := Lib.hid e1; have E2 := Lib.hid e2; have E3 := Lib.hid e3; have E4 := Lib.hid e4
    obtain ⟨i0, hi, hz0, hz1, hz2⟩ := info_parts byte_info
    have HZ2 := Lib.hid hz2
    clear ht hr hl e1 e2 e3 e4 hz2
    go_enter Tryz.func33, Tryz.ntmps33
    go_wp2_with (at_make; refine wpList_make_full _ rfl _ _ 54 rfl w.heap.size 5 i0 (.int .u8 0) 1 Tryz.underlying54 hi hz0 hz1 .i64 .i64 _ _ (n + 10) rfl rfl (by omega) (by omega) (by rw [HZ2.out]; omega) (by unfold maxLen; omega) (Nat.le_refl _) ?_; intro w2 hown2 hgrow2; have ho2 := Own.made hown2; obtain ⟨_, _, hh, _, hgs, hc0, hf0⟩ := ho2.at_ 0 (by omega); cases hh; obtain ⟨_, _, hh, _, _, hc1, hf1⟩ := ho2.at_ 1 (by omega); cases hh; simp only [Nat.zero_add] at hc0 hf0 hc1 hf1)
    have b2 := (Below.refl w.heap.size w).grown hgrow2 (Nat.le_refl _) (by intro k hk; cases hk)
    have o3 := (ho2.set 0 84 (by omega) (by omega)).set 1 78 (by omega) (by omega)
    simp only [Nat.zero_add] at o3
    rw [← E1.out] at o3
    have b3 := (b2.setCell (p := ⟨w.heap.size, 0, none⟩) (Nat.le_refl _) (u8v 84)).setCell (p := ⟨w.heap.size, 1, none⟩) (Nat.le_refl _) (u8v 78)
    clear hown2 ho2 hgrow2 hc0 hc1 hf0 hf1 b2 hi hz0 hz1 HZ2
    change Own ((w2.setCell ⟨w.heap.size, 0, none⟩ (.int .u8 84)).setCell ⟨w.heap.size, 1, none⟩ (.int .u8 78)) _ _ _ _ _ at o3
    change Below _ _ ((w2.setCell ⟨w.heap.size, 0, none⟩ (.int .u8 84)).setCell ⟨w.heap.size, 1, none⟩ (.int .u8 78)) at b3
    generalize (w2.setCell ⟨w.heap.size, 0, none⟩ (.int .u8 84)).setCell ⟨w.heap.size, 1, none⟩ (.int .u8 78) = w3 at *
    refine ((setword_any n (by omega) w.heap.size w.heap.size 0 (n + 10) (n + 10) L1 2 (n + 8) (n + 8) (by omega) (by omega) w3 o3)).mono ?_
    rintro e w4 ⟨rfl, o4, k4⟩
    rw [← E2.out] at o4
    have b4 := b3.trans (k4.below b3.size (by simp))
    clear b3 o3 k4 hgs
    have hr4 := HR.out.below b4
    have hcut := run_cut2 w4 (some ⟨w.heap.size, 0, none⟩) (n + 10) (n + 10) 10 (by omega)
    simp only [Nat.add_sub_cancel] at hcut
    have hsh : n ≠ 0 → sh (some ⟨w.heap.size, 0, none⟩) (n + 10) 10 = some ⟨w.heap.size, 0 + 10, none⟩ := fun h => sh_lt _ _ _ _ (by omega)
    have HS := Lib.hid hsh; clear hsh
    go_wp2_with (first
      | (refine wpList_value rfl _ (exec_slice 54 (.tmp 22) (some (.const (.int .i64 10))) none rfl rfl rfl rfl hcut) ?_)
      | (refine wpList_cpy rfl (.tmp 23) (.tmp 24) rfl 10 rfl o4 HS.out rfl hr4 HL.out (by omega) ?_; intro w5 o5 k5))
    rw [← E3.out] at o5
    have b5 := b4.trans (k5.below b4.size (by simp))
    have T5 : Tab w5.drew := HT.out.below b5.drew
    have O5 := o5.below (Below.refl _ w5).drew
    have b5d := b5.drew
    clear b4 k5 o4 o5 hr4 b5 hcut HS
    go_region_with (first
        | (go_at_call 65; refine (sumof_any (some ⟨w.heap.size, 0, none⟩) (n + 10) (n + 10) L3 n3 (by omega) (by omega) (by omega) _ T5 O5.rd).mono ?_; rintro e w6 ⟨rfl, b6⟩; have o6 := O5.below b6; have b6' := b5d.trans (b6.mono b5d.size))
        | (go_at_call 64; refine (setword_any (fsum L3) (fsum_lt _) w.heap.size w.heap.size 0 (n + 10) (n + 10) L3 6 (n + 4) (n + 4) (by omega) (by omega) _ o6).mono ?_; rintro e w7 ⟨rfl, o7, k7⟩; have b7 := b6'.trans (k7.below b6'.size (by simp))))
    all_goals
      go_wp2_with fail
      go_ret2
      rw [E4.out] at o7
      refine .inr ⟨by rw [HL.out]; omega, ?_⟩
      rw [HL.out]
      exact ⟨_, _, rfl, o7, b7⟩

/-- what a frame's body is, or why it is none -/
def unw (b : List Nat) : List Nat × Nat :=
  if b.length < 10 ∨ bt b 0 ≠ 84 ∨ bt b 1 ≠ 78 then ([], 32)
  else if 65536 < num (b.drop 2) then ([], 31)
  else if b.length ≠ 10 + num (b.drop 2) then ([], 33)
  else if num (b.drop 6) ≠ fsum b then ([], 34)
  else (b.drop 10, 0)
def Unwrapped (w : World) (l : List Nat) (e : Ending) (w' : World) : Prop :=
  ∃ ao cap, e = .returned (.tuple #[.slice ao (unw l).1.length cap, .int .i64 ((unw l).2 : Nat)]) ∧ Own w' w.heap.size ao (unw l).1.length cap (unw l).1 ∧ Below w.heap.size w w'
theorem Unwrapped.fails {w w' : World} {l : List Nat} {x : Nat} (h : unw l = ([], x)) (b : Below w.heap.size w w') : Unwrapped w l (.returned (.tuple #[.slice none 0 0, .int .i64 (x : Nat)])) w' := by
  unfold Unwrapped
  rw [h]
  exact ⟨none, 0, rfl, Own.nil _ _, b⟩

set_option maxRecDepth 100000 in
set_option maxHeartbeats 2000000 in
theorem unwrap_any (ao : Option Addr) (n cap : Nat) (l : List Nat) (hl : l.length = n) (hn : n ≤ 9223372036854775807) (hc : n ≤ cap) (w : World) (ht : Tab w) (hr : Rd w ao l) :
    Calls Tryz.prog 40 #[.slice ao n cap] w (Unwrapped w l) := by
  by_cases h10 : n < 10
  · have hu := Lib.hid (show unw l = ([], 32) by unfold unw; rw [if_pos (.inl (by omega))])
    clear ht hr hl
    go_enter Tryz.func40, Tryz.ntmps40
    go_wp2_with fail
    go_ret2
    exact Unwrapped.fails hu.out (Below.refl _ _)
  · obtain ⟨g, o, rfl, hg, hc0⟩ := hr.at_ 0 (by omega)
    obtain ⟨g', o', e', _, hc1⟩ := hr.at_ 1 (by omega)
    cases e'
    have hb0 := hr.byte 0
    have hb1 := hr.byte 1
    rw [Nat.add_zero] at hc0
    by_cases h0 : bt l 0 = 84 ∧ bt l 1 = 78
    · have hw1 := word_any _ (n - 2) (cap - 2) (l.drop 2) (by simp; omega) (by omega) w (hr.offr 2)
      have hw2 := word_any _ (n - 6) (cap - 6) (l.drop 6) (by simp; omega) (by omega) w (hr.offr 6)
      have hsm := sumof_any _ n cap l hl (by omega) hc hn w ht hr
      have hu0 := Lib.hid (show unw l = if 65536 < num (l.drop 2) then ([], 31) else if n ≠ 10 + num (l.drop 2) then ([], 33) else if num (l.drop 6) ≠ fsum l then ([], 34) else (l.drop 10, 0) by unfold unw; rw [if_neg (by rw [hl]; simp [h0.1, h0.2]; omega), hl])
      have hN := num_lt (l := l.drop 2) (fun j => by rw [bt_drop]; exact hr.byte _)
      have hM := num_lt (l := l.drop 6) (fun j => by rw [bt_drop]; exact hr.byte _)
      have hS := fsum_lt l
      rw [h0.1] at hc0
      rw [h0.2] at hc1
      have HR := Lib.hid hr; have HL := Lib.hid hl
      have W1 := Lib.hid hw1; have W2 := Lib.hid hw2; have SM := Lib.hid hsm
      clear hb0 hb1 h0 ht hr hl hw1 hw2 hsm
      generalize num (l.drop 2) = N at *
      generalize num (l.drop 6) = M at *
      generalize fsum l = S at *
      by_cases h1 : 65536 < N
      · have hu := Lib.hid (hu0.out.trans (if_pos h1))
        go_enter Tryz.func40, Tryz.ntmps40
        go_wp2_with fail
        refine W1.out.mono ?_
        rintro e w1 ⟨rfl, rfl⟩
        go_wp2_with fail
        go_ret2
        exact Unwrapped.fails hu.out (Below.refl _ _)
      · have hu1 := Lib.hid (hu0.out.trans (if_neg h1))
        by_cases h2 : n = 10 + N
        · have hu2 := Lib.hid (hu1.out.trans (if_neg (not_not_intro h2)))
          have h2' : 10 + N ≤ n ∧ n ≤ 10 + N := by omega
          obtain ⟨h2a, h2b⟩ := h2'
          clear h2
          by_cases h3 : M = S
          · subst h3
            have hu := Lib.hid (hu2.out.trans (if_neg (by simp)))
            have hcut := run_cut2
            go_enter Tryz.func40, Tryz.ntmps40
            go_wp2_with fail
            refine W1.out.mono ?_
            rintro e w1 ⟨rfl, rfl⟩
            go_wp2_with fail
            refine W2.out.mono ?_
            rintro e w1 ⟨rfl, rfl⟩
            go_wp2_with fail
            refine SM.out.mono ?_
            rintro e w1 ⟨rfl, b1⟩
            have hcut := run_cut2 w1 (some ⟨g, o, none⟩) n cap 10 (by omega)
            go_wp2_with (refine wpList_value rfl _ (exec_slice 54 (.tmp 37) (some (.const (.int .i64 10))) none rfl rfl rfl rfl hcut) ?_)
            refine (clone_any _ (n - 10) (cap - 10) (l.drop 10) (by simp [HL.out]) (by omega) w1 ((HR.out.below b1).sh cap 10 (by rw [HL.out]; exact hc))).mono ?_
            rintro e w2 ⟨ao2, cap2, rfl, o2, b2⟩
            go_wp2_with fail
            go_ret2
            unfold Unwrapped
            rw [hu.out]
            show ∃ ao cap, _ = Ending.returned (.tuple #[.slice ao (l.drop 10).length cap, .int .i64 0]) ∧ Own _ _ ao (l.drop 10).length cap (l.drop 10) ∧ _
            rw [List.length_drop, HL.out]
            exact ⟨ao2, cap2, rfl, o2.base b1.size, below_next b1 b2⟩
          · have hu := Lib.hid (hu2.out.trans (if_pos h3))
            go_enter Tryz.func40, Tryz.ntmps40
            go_wp2_with fail
            refine W1.out.mono ?_
            rintro e w1 ⟨rfl, rfl⟩
            go_wp2_with fail
            refine W2.out.mono ?_
            rintro e w1 ⟨rfl, rfl⟩
            go_wp2_with fail
            refine SM.out.mono ?_
            rintro e w1 ⟨rfl, b1⟩
            go_wp2_with fail
            go_ret2
            exact Unwrapped.fails hu.out b1
        · have hu := Lib.hid (hu1.out.trans (if_pos h2))
          go_enter Tryz.func40, Tryz.ntmps40
          go_wp2_with fail
          refine W1.out.mono ?_
          rintro e w1 ⟨rfl, rfl⟩
          go_wp2_with fail
          go_ret2
          exact Unwrapped.fails hu.out (Below.refl _ _)
    · have hu := Lib.hid (show unw l = ([], 32) by unfold unw; rw [if_pos (by omega)])
      clear ht hr hl
      by_cases ha : bt l 0 = 84
      · have hb : ¬ bt l 1 = 78 := fun h => h0 ⟨ha, h⟩
        rw [ha] at hc0
        clear h0 ha
        generalize bt l 1 = x1 at *
        have hb2 : ((x1 : Int) != 78) = true := by simp; omega
        go_enter Tryz.func40, Tryz.ntmps40
        go_wp2_with fail
        go_ret2
        exact Unwrapped.fails hu.out (Below.refl _ _)
      · clear h0
        generalize bt l 0 = x0 at *
        go_enter Tryz.func40, Tryz.ntmps40
        go_wp2_with fail
        go_ret2
        exact Unwrapped.fails hu.out (Below.refl _ _)
end Go.Proofs.YtngcbpgafjnfaaaGreatDoor


namespace Go.Proofs.YtngcbpgafjnfaaaGreatDoor
open Go.RowKit
set_option linter.unusedVariables false

theorem frame_parts (l : List Nat) : bt (frameOf l) 0 = 84 ∧ bt (frameOf l) 1 = 78 ∧ (frameOf l).drop 2 = four l.length ++ (four (sumOf (sumOf 0 (four l.length)) l) ++ l) ∧ (frameOf l).drop 6 = four (sumOf (sumOf 0 (four l.length)) l) ++ l ∧ (frameOf l).drop 10 = l := by
  refine ⟨rfl, rfl, rfl, ?_, ?_⟩
  · simp [frameOf, four]
  · simp [frameOf, four]
theorem frame_sum (l : List Nat) : fsum (frameOf l) = sumOf (sumOf 0 (four l.length)) l := by
  unfold fsum
  rw [(frame_parts l).2.2.1, (frame_parts l).2.2.2.2]
  rfl
theorem unw_frame (l : List Nat) (h : l.length ≤ 65536) : unw (frameOf l) = (l, 0) := by
  obtain ⟨h0, h1, h2, h6, h10⟩ := frame_parts l
  unfold unw
  rw [frame_sum, frameOf_length, h2, h6, h10, num_four _ (by omega), num_four _ (sumOf_lt _ _), if_neg (by simp [h0, h1]), if_neg (by omega), if_neg (by omega), if_neg (by simp)]

theorem num_inj {l m : List Nat} (hl : ∀ j, bt l j < 256) (hm : ∀ j, bt m j < 256) (h : num l = num m) : bt l 0 = bt m 0 ∧ bt l 1 = bt m 1 ∧ bt l 2 = bt m 2 ∧ bt l 3 = bt m 3 := by
  rw [num_eq, num_eq] at h
  have := hl 0; have := hl 1; have := hl 2; have := hl 3
  have := hm 0; have := hm 1; have := hm 2; have := hm 3
  omega

/-- bytes p .. p + k - 1 turned -/
def flip (F : List Nat) (p : Nat) (by_ : List Nat) : Nat → List Nat
  | 0 => F
  | k + 1 => (flip F p by_ k).set (p + k) (bt F (p + k) ^^^ bt by_ k)
def chg (by_ : List Nat) : Nat → Bool
  | 0 => false
  | k + 1 => chg by_ k || (bt by_ k != 0)
theorem flip_length (F : List Nat) (p : Nat) (b : List Nat) : ∀ k, (flip F p b k).length = F.length
  | 0 => rfl
  | k + 1 => by rw [flip, List.length_set, flip_length]
theorem flip_bt (F : List Nat) (p : Nat) (b : List Nat) : ∀ k, p + k ≤ F.length → ∀ j, bt (flip F p b k) j = if p ≤ j ∧ j < p + k then bt F j ^^^ bt b (j - p) else bt F j
  | 0, _, j => by rw [flip, if_neg (by omega)]
  | k + 1, h, j => by
    rw [flip, bt_set _ _ _ _ (by rw [flip_length]; omega), flip_bt F p b k (by omega) j]
    by_cases e : j = p + k
    · subst e; rw [if_pos rfl, if_pos (by omega), Nat.add_sub_cancel_left]
    · rw [if_neg e]
      by_cases e2 : p ≤ j ∧ j < p + k
      · rw [if_pos e2, if_pos (by omega)]
      · rw [if_neg e2, if_neg (by omega)]
theorem chg_false {b : List Nat} : ∀ {k}, chg b k = false → ∀ j, j < k → bt b j = 0
  | 0, _, j, hj => by omega
  | k + 1, h, j, hj => by
    rw [chg, Bool.or_eq_false_iff] at h
    by_cases e : j = k
    · subst e; simpa using h.2
    · exact chg_false h.1 j (by omega)
theorem chg_true {b : List Nat} : ∀ {k}, chg b k = true → ∃ j, j < k ∧ bt b j ≠ 0
  | 0, h => by simp [chg] at h
  | k + 1, h => by
    rw [chg, Bool.or_eq_true] at h
    rcases h with h | h
    · obtain ⟨j, h1, h2⟩ := chg_true h; exact ⟨j, by omega, h2⟩
    · exact ⟨k, by omega, by simpa using h⟩
theorem xor_zero_iff {a b : Nat} (h : a ^^^ b = a) : b = 0 := by
  have : a ^^^ (a ^^^ b) = a ^^^ a := by rw [h]
  rw [← Nat.xor_assoc, Nat.xor_self, Nat.zero_xor] at this
  exact this
theorem frame_byte (l : List Nat) (hl : ∀ c ∈ l, c < 256) : ∀ j, bt (frameOf l) j < 256 := by
  have h : ∀ c ∈ frameOf l, c < 256 := by
    intro c hc
    simp only [frameOf, List.mem_append] at hc
    rcases hc with h | h | h | h
    · simp at h; omega
    · exact four_lt _ c h
    · exact four_lt _ c h
    · exact hl c h
  intro j
  by_cases hj : j < (frameOf l).length
  · exact h _ (bt_mem hj)
  · simp [bt, show (frameOf l).length ≤ j by omega]
theorem bt_byte {l : List Nat} (h : ∀ c ∈ l, c < 256) (j : Nat) : bt l j < 256 := by
  by_cases hj : j < l.length
  · exact h _ (bt_mem hj)
  · simp [bt, show l.length ≤ j by omega]

theorem mem_byte {H : List Nat} (h : ∀ j, bt H j < 256) : ∀ c ∈ H, c < 256 := by
  intro c hc
  obtain ⟨i, hi, rfl⟩ := List.mem_iff_getElem.1 hc
  have := h i
  simpa [bt, List.getD, hi] using this
/-- A CHANGE IS REFUSED, AND NOTHING ELSE IS -/
theorem back_plain (l : List Nat) (hl : ∀ c ∈ l, c < 256) (hn : l.length ≤ 65536) (b : List Nat) (hb : ∀ c ∈ b, c < 256) (p k : Nat) (hk : k ≤ 4) (hp : p + k ≤ (frameOf l).length) (h6 : p < 6 → k ≤ 1) (h10 : p < 10 → 6 ≤ p → p + k ≤ 10) :
    chg b k = ((unw (flip (frameOf l) p b k)).2 != 0) := by
  have hF := frame_byte l hl
  have hlen := frameOf_length l
  have hfl := flip_length (frameOf l) p b k
  have hfb := flip_bt (frameOf l) p b k hp
  have hu := unw_frame l hn
  cases hc : chg b k
  · have h0 := chg_false hc
    have e : flip (frameOf l) p b k = frameOf l := by
      refine ext_bt hfl fun j hj => ?_
      rw [hfb j]
      split
      · rw [h0 _ (by omega), Nat.xor_zero]
      · rfl
    rw [e, hu]; rfl
  · obtain ⟨j0, hj0, hne⟩ := chg_true hc
    have hdiff : bt (flip (frameOf l) p b k) (p + j0) ≠ bt (frameOf l) (p + j0) := by
      rw [hfb, if_pos (by omega), Nat.add_sub_cancel_left]
      intro e; exact hne (xor_zero_iff e)
    have hG : ∀ j, bt (flip (frameOf l) p b k) j < 256 := by
      intro j
      rw [hfb]
      split
      · exact Nat.xor_lt_two_pow (n := 8) (hF j) (bt_byte hb _)
      · exact hF j
    obtain ⟨g0, g1, g2, g6, g10⟩ := frame_parts l
    generalize flip (frameOf l) p b k = G at *
    symm
    rw [bne_iff_ne]
    intro hz
    -- it was taken: every test said no
    have hun : bt G 0 = 84 ∧ bt G 1 = 78 ∧ G.length = 10 + num (G.drop 2) ∧ num (G.drop 6) = fsum G := by
      unfold unw at hz
      split at hz
      · simp at hz
      · rename_i a1
        split at hz
        · simp at hz
        · split at hz
          · simp at hz
          · rename_i a3
            split at hz
            · simp at hz
            · rename_i a4
              refine ⟨?_, ?_, ?_, ?_⟩ <;> omega
    obtain ⟨u0, u1, u2, u3⟩ := hun
    have same : ∀ j, ¬ (p ≤ j ∧ j < p + k) → bt G j = bt (frameOf l) j := fun j hj => by rw [hfb, if_neg hj]
    have hnumF : num ((frameOf l).drop 2) = l.length := by rw [g2, num_four _ (by omega)]
    have hnum6 : num ((frameOf l).drop 6) = fsum (frameOf l) := by rw [g6, num_four _ (sumOf_lt _ _), frame_sum]
    rcases Nat.lt_or_ge p 6 with hp6 | hp6
    · have hk1 := h6 hp6
      obtain rfl : j0 = 0 := by omega
      rw [Nat.add_zero] at hdiff
      have e2 := num_inj (l := G.drop 2) (m := (frameOf l).drop 2) (fun j => by rw [bt_drop]; exact hG _) (fun j => by rw [bt_drop]; exact hF _) (by rw [hnumF]; omega)
      simp only [bt_drop] at e2
      have h : p = 0 ∨ p = 1 ∨ p = 2 ∨ p = 3 ∨ p = 4 ∨ p = 5 := by omega
      rcases h with rfl | rfl | rfl | rfl | rfl | rfl
      · exact hdiff (by rw [u0, g0])
      · exact hdiff (by rw [u1, g1])
      · exact hdiff e2.1
      · exact hdiff e2.2.1
      · exact hdiff e2.2.2.1
      · exact hdiff e2.2.2.2
    · have t24 : (G.drop 2).take 4 = ((frameOf l).drop 2).take 4 := by
        refine ext_bt (by simp [hfl]) fun j hj => ?_
        simp at hj
        rw [bt_take (by omega), bt_take (by omega), bt_drop, bt_drop, same _ (by omega)]
      rcases Nat.lt_or_ge p 10 with hp10 | hp10
      · have hk10 := h10 hp10 hp6
        have d10 : G.drop 10 = (frameOf l).drop 10 := by
          refine ext_bt (by simp [hfl]) fun j hj => ?_
          rw [bt_drop, bt_drop, same _ (by omega)]
        have hs : fsum G = fsum (frameOf l) := by unfold fsum; rw [t24, d10]
        have e6 := num_inj (l := G.drop 6) (m := (frameOf l).drop 6) (fun j => by rw [bt_drop]; exact hG _) (fun j => by rw [bt_drop]; exact hF _) (by rw [hnum6, u3, hs])
        simp only [bt_drop] at e6
        have h : p + j0 = 6 ∨ p + j0 = 7 ∨ p + j0 = 8 ∨ p + j0 = 9 := by omega
        rcases h with h | h | h | h <;> rw [h] at hdiff
        · exact hdiff e6.1
        · exact hdiff e6.2.1
        · exact hdiff e6.2.2.1
        · exact hdiff e6.2.2.2
      · have n6 : num (G.drop 6) = num ((frameOf l).drop 6) := by
          rw [num_eq, num_eq]
          simp only [bt_drop]
          rw [same _ (by omega), same _ (by omega), same _ (by omega), same _ (by omega)]
        have hs : fsum G = fsum (frameOf l) := by rw [← u3, n6, hnum6]
        unfold fsum at hs
        rw [t24] at hs
        have cut : ∀ H : List Nat, H.drop 10 = (H.drop 10).take (p - 10) ++ ((H.drop 10).drop (p - 10)).take k ++ ((H.drop 10).drop (p - 10)).drop k := fun H => by
          rw [List.append_assoc, List.take_append_drop, List.take_append_drop]
        have hA : (G.drop 10).take (p - 10) = ((frameOf l).drop 10).take (p - 10) := by
          refine ext_bt (by simp [hfl]) fun j hj => ?_
          simp at hj
          rw [bt_take (by omega), bt_take (by omega), bt_drop, bt_drop, same _ (by omega)]
        have hB : ((G.drop 10).drop (p - 10)).drop k = (((frameOf l).drop 10).drop (p - 10)).drop k := by
          refine ext_bt (by simp [hfl]) fun j hj => ?_
          rw [bt_drop, bt_drop, bt_drop, bt_drop, bt_drop, bt_drop, same _ (by omega)]
        rw [cut G, cut (frameOf l), hA, hB] at hs
        have hX := sum_burst _ _ _ _ (by simp [hfl]) (by simp; omega) (fun c hc => mem_byte hG c (List.mem_of_mem_drop (List.mem_of_mem_drop (List.mem_of_mem_take hc)))) (fun c hc => mem_byte hF c (List.mem_of_mem_drop (List.mem_of_mem_drop (List.mem_of_mem_take hc)))) hs
        apply hdiff
        have e := congrArg (fun x => bt x j0) hX
        rw [bt_take (by omega), bt_take (by omega), bt_drop, bt_drop, bt_drop, bt_drop] at e
        rwa [show 10 + (p - 10 + j0) = p + j0 by omega] at e
end Go.Proofs.YtngcbpgafjnfaaaGreatDoor
