/- Watch. -/
import Derived.Test.YtlfnkplgjlpaaaaBeat
import Derived.Maps.OwnOps
namespace Go.Proofs.Ytlfnkplgjlpaaaa
open Go.RowKit Go.Sort
set_option linter.unusedVariables false

/-- a node that is watched from now on -/
abbrev newN (guess : Nat) (id : Int) (now : Nat) : Nd := ⟨id, now, 0, guess, false⟩
section
variable {w w' : World} {B hn guess : Nat} {mg : Option Nat} {S : List Nd} {Bs : List Nat}
theorem DetW.insMap {gm : Nat} (h : DetW w B hn (some gm) S guess) {n2 : Nd} (hid : (Lit.int .i64 n2.id).wf = true) (hl : look S n2.id = none) (hok : n2.Ok) (hf : S.length < 12) :
    ∃ w', (Instr.mapUpdate 65 (.map (some gm)) (.int .i64 n2.id) (agv n2)).run Try.prog w = .ok () w' ∧ DetW w' B hn (some gm) (ins n2 S) guess ∧ Keep [gm] w w' := by
  obtain ⟨w', h1, h2, h3⟩ := MapV.put h.map n2.id n2.cells hid (by omega)
  rw [show (fmap S n2.id).isSome = false by simp [fmap, hl], fmap_ins S n2 h.inc (look_none hl)] at h2
  have hg := h.gbase gm rfl
  refine ⟨w', h1, ⟨?_, (h3.block hn h.hlt (by simpa using (Ne.symm hg.2))).trans h.row, h.base, h.gbase, ins_inc h.inc (look_none hl), fun x hx => ?_, by rw [ins_len]; omega, h.g⟩, h3⟩
  · show MapV w' gm (ins n2 S).length (fmap (ins n2 S))
    rw [ins_len]
    exact h2
  · rcases ins_mem.1 hx with rfl | hx
    · exact hok
    · exact h.ok x hx
theorem map_eql (m : Option Nat) (w : World) : (binOp .eql 65 (.map m) (.map none)).run Try.prog w = .ok (.bool m.isNone) w := by
  simp only [binOp]
  simp [run_equal_map_nil w 65 _ _ m Try.underlying65]
/-- the first map -/
abbrev freshW (w : World) (hn : Nat) : World := ((w.setCell ⟨hn, 1, none⟩ (.map (some (w.heap.size + 1)))).alloc nodeO).alloc (.map #[] 0)
theorem DetW.fresh (h : DetW w B hn none S guess) : DetW (freshW w hn) B hn (some (w.heap.size + 1)) S guess ∧ Turned [hn] [hn, w.heap.size + 1] w (freshW w hn) := by
  obtain rfl : S = [] := h.map
  have hlt := h.hlt
  have hb := h.base
  have k := Keep.setCell w ⟨hn, 1, none⟩ (.map (some (w.heap.size + 1)))
  have hm := MapV.made ((w.setCell ⟨hn, 1, none⟩ (.map (some (w.heap.size + 1)))).alloc nodeO)
  have hs : ((w.setCell ⟨hn, 1, none⟩ (.map (some (w.heap.size + 1)))).alloc nodeO).heap.size = w.heap.size + 1 := by simp [World.setCell]
  rw [hs] at hm
  have b := below_alloc (below_alloc (Below.refl (w.setCell ⟨hn, 1, none⟩ (.map (some (w.heap.size + 1)))).heap.size _) nodeO) (.map #[] 0)
  have hs2 : (w.setCell ⟨hn, 1, none⟩ (.map (some (w.heap.size + 1)))).heap.size = w.heap.size := by simp [World.setCell]
  refine ⟨⟨hm, (b.block hn (by omega)).trans (heap_setCell_same _ hn 1 _ _ _ h.row), h.base, fun gm e => ?_, h.inc, h.ok, h.few, h.g⟩, ⟨k.trans (Keep.of_below b _), fun q hq => ?_⟩⟩
  · cases e; omega
  · simp at hq ⊢; omega
set_option maxHeartbeats 800000 in
theorem watch_nil (id now : Int) (w : World) : Calls Try.prog 12 #[.pointer none, .int .i64 id, .int .i64 now] w fun e w' => e = .returned (.int .i64 1) ∧ w = w' := by
  go_enter Try.func12, Try.ntmps12
  go_wp2_with fail
  go_ret
  exact ⟨rfl, rfl⟩
set_option maxHeartbeats 800000 in
theorem watch_arg (id now : Int) (w : World) (p : Value) (hb : (decide (0 ≤ id ∧ id ≤ 255) && isT now) = false) : Calls Try.prog 12 #[.pointer (some ⟨hn, 0, none⟩), .int .i64 id, .int .i64 now] w fun e w' => e = .returned (.int .i64 1) ∧ w = w' := by
  have C1 := fun w => withinI id 0 255 (by omega) w
  have C2 := fun w => isTime_any now w
  cases h1 : decide (0 ≤ id ∧ id ≤ 255) <;> rw [h1] at C1 hb <;> have C1 := Lib.hid C1
  · clear h1 hb C2
    go_enter Try.func12, Try.ntmps12
    go_wp2_with fail
    refine (C1.out _).mono ?_; rintro e w1 ⟨rfl, rfl⟩
    go_wp2_with fail
    go_ret
    exact ⟨rfl, rfl⟩
  · rw [Bool.true_and] at hb
    rw [hb] at C2
    have C2 := Lib.hid C2
    clear h1 hb
    go_enter Try.func12, Try.ntmps12
    go_wp2_with fail
    refine (C1.out _).mono ?_; rintro e w1 ⟨rfl, rfl⟩
    go_wp2_with fail
    refine (C2.out _).mono ?_; rintro e w2 ⟨rfl, rfl⟩
    go_wp2_with fail
    go_ret
    exact ⟨rfl, rfl⟩
set_option maxHeartbeats 1600000 in
theorem watch_is (id : Int) (hid : 0 ≤ id ∧ id ≤ 255) {now : Nat} (hnow : now ≤ 1099511627776) (w : World) (h : Det w B hn Bs S guess) {n : Nd} (hl : look S id = some n) : Calls Try.prog 12 #[.pointer (some ⟨hn, 0, none⟩), .int .i64 id, .int .i64 (now : Int)] w fun e w' => e = .returned (.int .i64 0) ∧ Below w.heap.size w w' := by
  have C1 := fun w => withinI id 0 255 (by omega) w
  rw [show decide (0 ≤ id ∧ id ≤ 255) = true by simpa using hid] at C1
  have C2 := fun w => isTime_any (now : Int) w
  rw [isT_nat hnow] at C2
  have C1 := Lib.hid C1; have C2 := Lib.hid C2
  obtain ⟨mg, rfl, h⟩ := h
  have c1 := h.at1
  have hk := h.map.look id (wf_small (by omega) (by omega))
  rw [hl] at hk
  simp only [Option.map_some, Option.getD_some, Option.isSome_some] at hk
  obtain ⟨pid, last, mean, marg, bad⟩ := n
  clear h hl hid hnow
  go_enter Try.func12, Try.ntmps12
  go_wp2_with fail
  refine (C1.out _).mono ?_; rintro e w1 ⟨rfl, rfl⟩
  go_wp2_with fail
  refine (C2.out _).mono ?_; rintro e w2 ⟨rfl, rfl⟩
  go_wp2_with fail
  go_ret
  exact ⟨rfl, below_alloc (Below.refl _ _) _⟩
set_option maxHeartbeats 1600000 in
theorem watch_full (id : Int) (hid : 0 ≤ id ∧ id ≤ 255) {now : Nat} (hnow : now ≤ 1099511627776) (w : World) (h : Det w B hn Bs S guess) (hl : look S id = none) (hf : 12 ≤ S.length) : Calls Try.prog 12 #[.pointer (some ⟨hn, 0, none⟩), .int .i64 id, .int .i64 (now : Int)] w fun e w' => e = .returned (.int .i64 91) ∧ Below w.heap.size w w' := by
  have C1 := fun w => withinI id 0 255 (by omega) w
  rw [show decide (0 ≤ id ∧ id ≤ 255) = true by simpa using hid] at C1
  have C2 := fun w => isTime_any (now : Int) w
  rw [isT_nat hnow] at C2
  have C1 := Lib.hid C1; have C2 := Lib.hid C2
  obtain ⟨mg, rfl, h⟩ := h
  have c1 := h.at1
  have hk := h.map.look id (wf_small (by omega) (by omega))
  rw [hl] at hk
  simp only [Option.map_none, Option.getD_none, Option.isSome_none] at hk
  have hln := (h.below (below_alloc (Below.refl w.heap.size w) nodeO)).map.len 3
  have h12 : S.length = 12 := Nat.le_antisymm h.few hf
  rw [h12] at hln
  rw [show ((12 : Nat) : Int) = 12 by rfl] at hln
  have hlt := h.hlt
  clear h hl hid hnow hf h12
  go_enter Try.func12, Try.ntmps12
  go_wp2_with fail
  refine (C1.out _).mono ?_; rintro e w1 ⟨rfl, rfl⟩
  go_wp2_with fail
  refine (C2.out _).mono ?_; rintro e w2 ⟨rfl, rfl⟩
  go_wp2_with fail
  go_ret
  exact ⟨rfl, below_alloc (Below.refl _ _) _⟩
set_option maxRecDepth 10000 in
set_option maxHeartbeats 4000000 in
theorem watch_yes (id : Int) (hid : 0 ≤ id ∧ id ≤ 255) {now : Nat} (hnow : now ≤ 1099511627776) (w : World) (h : Det w B hn Bs S guess) (hl : look S id = none) (hf : S.length < 12) : Calls Try.prog 12 #[.pointer (some ⟨hn, 0, none⟩), .int .i64 id, .int .i64 (now : Int)] w fun e w' =>
    ∃ Bs', e = .returned (.int .i64 0) ∧ Det w' B hn Bs' (ins (newN guess id now) S) guess ∧ Turned Bs Bs' w w' := by
  have C1 := fun w => withinI id 0 255 (by omega) w
  rw [show decide (0 ≤ id ∧ id ≤ 255) = true by simpa using hid] at C1
  have C2 := fun w => isTime_any (now : Int) w
  rw [isT_nat hnow] at C2
  have C1 := Lib.hid C1; have C2 := Lib.hid C2
  obtain ⟨mg, rfl, h⟩ := h
  have c1 := h.at1
  have hwf := wf_small (x := id) (by omega) (by omega)
  have hk := h.map.look id hwf
  rw [hl] at hk
  simp only [Option.map_none, Option.getD_none, Option.isSome_none] at hk
  have hb := h.below (below_alloc (Below.refl w.heap.size w) nodeO)
  have hln := hb.map.len 3
  have HB := Lib.hid hb; have H := Lib.hid h
  have hok : (newN guess id now).Ok := ⟨hid.1, hid.2, hnow, by simp, by have := h.g.2; simpa using this⟩
  have HOK := Lib.hid hok; have HL := Lib.hid hl; have HF := Lib.hid hf; have HWF := Lib.hid hwf; have HBE := Lib.hid h.base
  have hge : decide ((12 : Int) ≤ (S.length : Int)) = false := by simp; omega
  have hlt := h.hlt
  have c1b := hb.at1
  have BA := Lib.hid (below_alloc (Below.refl w.heap.size w) nodeO)
  clear h hl hid hnow hok hb hf
  have hmm := @run_makeMap Try.prog
  have heq := fun w => map_eql mg w
  generalize S.length = m at hln hge
  have f1 := HB.out.fr 1
  have FRW : mg = none → Hid (DetW (freshW w hn) B hn (some (w.heap.size + 1)) S guess ∧ Turned [hn] [hn, w.heap.size + 1] w (freshW w hn)) := fun e => by
    subst e
    exact Lib.hid (DetW.fresh H.out)
  cases mg with
  | none =>
    have FR := FRW rfl
    clear FRW HB H
    have f1 : w.frozen? ⟨hn, 1, none⟩ = false := by rw [← f1]; exact (World.frozen?_of_block (w := w) (BA.out.block hn hlt)).symm
    go_enter Try.func12, Try.ntmps12
    go_wp2_with fail
    refine (C1.out _).mono ?_; rintro e w1 ⟨rfl, rfl⟩
    go_wp2_with fail
    refine (C2.out _).mono ?_; rintro e w2 ⟨rfl, rfl⟩
    go_wp2_with fail
    have hD := FR.out.1; have hT := FR.out.2
    change Code.wp _ _ _ _ (freshW w2 hn)
    have hgm : w2.heap.size ≤ w2.heap.size + 1 := by omega
    generalize w2.heap.size + 1 = gm at *
    generalize freshW w2 hn = W at *
    have HD := Lib.hid hD; have HT := Lib.hid hT
    have d0 := cell_regrown hD.at0; have d1 := cell_regrown hD.at1
    clear hD hT f1 c1 c1b hk hln FR hgm
    refine region_tail 11 (by kernel_rfl) (by kernel_rfl) ?_
    simp only [List.take_succ_cons, List.take_zero, List.drop_succ_cons, List.drop_zero]
    repeat (go_big_quiet_step (fail))
    refine wpQuiet_nil ?_
    intro _ hw'
    obtain ⟨⟨dq, osq⟩, hw''⟩ := hw'
    subst hw''
    have lk := below_regrown W dq osq
    have h4 := HD.out.below lk
    have T4 := Lib.hid (HT.out.trans (Turned.below (Bs := [hn, gm]) lk))
    clear d0 d1 lk HD
    generalize grow (redrawn W dq) osq = w4 at *
    obtain ⟨w5, hr, h5, k5⟩ := h4.insMap (n2 := newN guess id now) HWF.out HL.out HOK.out HF.out
    simp only [agv, Nd.cells, show ((0 : Nat) : Int) = 0 from rfl] at hr
    have H5 := Lib.hid h5; have K5 := Lib.hid k5
    clear h4 h5 k5
    go_wp2_with fail
    go_ret
    refine ⟨[hn, gm], rfl, ⟨some gm, rfl, H5.out⟩, T4.out.trans ⟨K5.out.mono fun q hq => .inl (by simp at hq ⊢; exact .inr hq), fun q hq => .inl hq⟩⟩
  | some gm =>
    have HD := HB; have HA := BA
    have hD := HB.out
    clear FRW HB H
    go_enter Try.func12, Try.ntmps12
    go_wp2_with fail
    refine (C1.out _).mono ?_; rintro e w1 ⟨rfl, rfl⟩
    go_wp2_with fail
    refine (C2.out _).mono ?_; rintro e w2 ⟨rfl, rfl⟩
    go_wp2_with fail
    have HT := Lib.hid (Turned.below (Bs := [hn, gm]) BA.out)
    generalize w2.alloc nodeO = W at *
    have d0 := cell_regrown hD.at0; have d1 := cell_regrown hD.at1
    clear hD f1 c1 c1b hk hln BA
    refine region_tail 11 (by kernel_rfl) (by kernel_rfl) ?_
    simp only [List.take_succ_cons, List.take_zero, List.drop_succ_cons, List.drop_zero]
    repeat (go_big_quiet_step (fail))
    refine wpQuiet_nil ?_
    intro _ hw'
    obtain ⟨⟨dq, osq⟩, hw''⟩ := hw'
    subst hw''
    have lk := below_regrown W dq osq
    have h4 := HD.out.below lk
    have T4 := Lib.hid (HT.out.trans (Turned.below (Bs := [hn, gm]) lk))
    clear d0 d1 lk HD
    generalize grow (redrawn W dq) osq = w4 at *
    obtain ⟨w5, hr, h5, k5⟩ := h4.insMap (n2 := newN guess id now) HWF.out HL.out HOK.out HF.out
    simp only [agv, Nd.cells, show ((0 : Nat) : Int) = 0 from rfl] at hr
    have H5 := Lib.hid h5; have K5 := Lib.hid k5
    clear h4 h5 k5
    go_wp2_with fail
    go_ret
    refine ⟨[hn, gm], rfl, ⟨some gm, rfl, H5.out⟩, T4.out.trans ⟨K5.out.mono fun q hq => .inl (by simp at hq ⊢; exact .inr hq), fun q hq => .inl hq⟩⟩
end
end Go.Proofs.Ytlfnkplgjlpaaaa
