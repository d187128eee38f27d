/- Beat, Watch. -/
import Derived.Test.YtlfnkplgjlpaaaaFind
import Derived.Test.YtlfnkplgjlpaaaaHeard
namespace Go.Proofs.Ytlfnkplgjlpaaaa
open Go.RowKit Go.Sort
set_option linter.unusedVariables false

section
variable {w w' : World} {B hn guess : Nat} {mg : Option Nat} {S : List Nd} {Bs : List Nat}
theorem DetW.putMap (h : DetW w B hn mg S guess) {n n2 : Nd} (hid : (Lit.int .i64 n2.id).wf = true) (hl : look S n2.id = some n) (hok : n2.Ok) :
    ∃ gm w', mg = some gm ∧ (Instr.mapUpdate 65 (.map mg) (.int .i64 n2.id) (agv n2)).run Try.prog w = .ok () w' ∧ DetW w' B hn mg (putN n2 S) guess ∧ Keep [gm] w w' := by
  cases mg with
  | none =>
    obtain rfl : S = [] := h.map
    cases hl
  | some gm =>
    obtain ⟨w', h1, h2, h3⟩ := MapV.put h.map n2.id n2.cells hid (by have := h.few; omega)
    rw [show (fmap S n2.id).isSome = true by simp [fmap, hl], fmap_putN S n2 h.inc hl] at h2
    have hg := h.gbase gm rfl
    refine ⟨gm, w', rfl, h1, ⟨?_, (h3.block hn h.hlt (by simpa using (Ne.symm hg.2))).trans h.row, h.base, h.gbase, putN_inc h.inc, fun x hx => ?_, by rw [putN_len]; exact h.few, h.g⟩, h3⟩
    · show MapV w' gm (putN n2 S).length (fmap (putN n2 S))
      rw [putN_len]
      exact h2
    · rcases putN_mem hx with rfl | ⟨hx, _⟩
      · exact hok
      · exact h.ok x hx
theorem Det.found (h : Det w B hn Bs S guess) {id : Int} {n : Nd} (hl : look S id = some n) : n.Ok ∧ n.id = id := by
  obtain ⟨mg, _, h⟩ := h
  obtain ⟨h1, h2⟩ := look_some hl
  exact ⟨h.ok n h1, h2⟩
set_option maxHeartbeats 800000 in
theorem beat_nil (id now : Int) (w : World) : Calls Try.prog 14 #[.pointer none, .int .i64 id, .int .i64 now] w fun e w' => e = .returned (.int .i64 1) ∧ Below w.heap.size w w' := by
  have C := Lib.hid (find_nil id w)
  go_enter Try.func14, Try.ntmps14
  go_wp2_with fail
  refine C.out.mono ?_; rintro e w1 ⟨rfl, b1⟩
  go_wp2_with fail
  go_ret
  exact ⟨rfl, below_alloc b1 _⟩
set_option maxHeartbeats 800000 in
theorem beat_no (id now : Int) (hid : (Lit.int .i64 id).wf = true) (w : World) (h : Det w B hn Bs S guess) (hl : look S id = none) : Calls Try.prog 14 #[.pointer (some ⟨hn, 0, none⟩), .int .i64 id, .int .i64 now] w fun e w' => e = .returned (.int .i64 92) ∧ Below w.heap.size w w' := by
  have C := find_any id hid w h
  unfold findE at C; rw [hl] at C
  have C := Lib.hid C
  clear h hl
  go_enter Try.func14, Try.ntmps14
  go_wp2_with fail
  refine C.out.mono ?_; rintro e w1 ⟨rfl, b1⟩
  go_wp2_with fail
  go_ret
  exact ⟨rfl, below_alloc b1 _⟩
set_option maxHeartbeats 800000 in
theorem beat_arg (id now : Int) (hid : (Lit.int .i64 id).wf = true) (w : World) (h : Det w B hn Bs S guess) {n : Nd} (hl : look S id = some n) (hnow : isT now = false) : Calls Try.prog 14 #[.pointer (some ⟨hn, 0, none⟩), .int .i64 id, .int .i64 now] w fun e w' => e = .returned (.int .i64 1) ∧ Below w.heap.size w w' := by
  have C := find_any id hid w h
  unfold findE at C; rw [hl] at C
  have C := Lib.hid C
  have T1 := fun w => isTime_any now w
  rw [hnow] at T1
  have T1 := Lib.hid T1
  obtain ⟨pid, last, mean, marg, bad⟩ := n
  clear h hl hnow
  go_enter Try.func14, Try.ntmps14
  go_wp2_with fail
  refine C.out.mono ?_; rintro e w1 ⟨rfl, b1⟩
  go_wp2_with fail
  refine (T1.out _).mono ?_; rintro e w2 ⟨rfl, rfl⟩
  go_wp2_with fail
  go_ret
  exact ⟨rfl, below_alloc b1 _⟩
set_option maxRecDepth 10000 in
set_option maxHeartbeats 1600000 in
theorem beat_yes (id : Int) (hid : (Lit.int .i64 id).wf = true) {now : Nat} (hnow : now ≤ 1099511627776) (w : World) (h : Det w B hn Bs S guess) {n : Nd} (hl : look S id = some n) : Calls Try.prog 14 #[.pointer (some ⟨hn, 0, none⟩), .int .i64 id, .int .i64 (now : Int)] w fun e w' => e = .returned (.int .i64 0) ∧ Det w' B hn Bs (putN (n.heard now) S) guess ∧ Turned Bs Bs w w' := by
  have C := find_any id hid w h
  unfold findE at C; rw [hl] at C
  have C := Lib.hid C
  obtain ⟨hok, hnid⟩ := h.found hl
  have hok2 := hok.heard hnow
  have hid2 : (n.heard now).id = id := hnid
  have T1 := fun w => isTime_any (now : Int) w
  rw [isT_nat hnow] at T1
  have T1 := Lib.hid T1
  have H1 := Lib.hid (show Ret _ _ _ from fun w => heard_any n hok hnow w)
  have HL := Lib.hid hl; have H := Lib.hid h; have HOK := Lib.hid hok2; have HID := Lib.hid hid2; have HWF := Lib.hid hid
  generalize n.heard now = n2 at *
  obtain ⟨pid, last, mean, marg, bad⟩ := n
  obtain ⟨pid2, last2, mean2, marg2, bad2⟩ := n2
  clear h hl hnow hok hok2 hnid hid2 hid
  go_enter Try.func14, Try.ntmps14
  go_wp2_with fail
  refine C.out.mono ?_; rintro e w1 ⟨rfl, b1⟩
  have B1 := Lib.hid b1
  have R1 := Lib.hid (Row4.new w1 (.int .i64 (last : Int)) (.int .i64 (mean : Int)) (.int .i64 (marg : Int)) (.bool bad))
  clear b1
  go_wp2_with fail
  refine (T1.out _).mono ?_; rintro e w2 ⟨rfl, hw2⟩
  have b2 : Below w.heap.size w w2 := by rw [hw2]; exact below_alloc B1.out _
  have r2 := R1.out
  rw [← hw2] at r2
  clear hw2 R1
  have BB2 := Lib.hid b2
  obtain ⟨mg, hBs, h2⟩ := H.out.below b2
  have c1 := h2.at1
  obtain ⟨c0', c1', c2', c3', f0', f1', f2', f3', l2⟩ := r2.all
  have HBs := Lib.hid hBs
  have HD2 := Lib.hid h2
  have b1l : w1.heap.size < w2.heap.size := l2
  clear b2 r2 hBs h2
  go_wp2_with fail
  have k0 := cell_regrown c0'; have k1 := cell_regrown c1'; have k2 := cell_regrown c2'; have k3 := cell_regrown c3'
  have kd := cell_regrown c1
  refine region_tail 8 (by kernel_rfl) (by kernel_rfl) ?_
  simp only [List.take_succ_cons, List.take_zero, List.drop_succ_cons, List.drop_zero]
  repeat (go_big_quiet_step (exact H1.out.re _ _ _))
  refine wpQuiet_nil ?_
  intro _ hw'
  obtain ⟨⟨dq, osq⟩, hw''⟩ := hw'
  subst hw''
  have lk := below_regrown w2 dq osq
  have h4 := HD2.out.below lk
  have B4 := Lib.hid (BB2.out.trans (lk.mono BB2.out.size))
  clear k0 k1 k2 k3 kd lk
  generalize grow (redrawn w2 dq) osq = w4 at *
  have hpid : pid2 = id := HID.out
  obtain ⟨gm, w5, hgm, hr, h5, k5⟩ := h4.putMap (n2 := ⟨pid2, last2, mean2, marg2, bad2⟩) (by show (Lit.int .i64 pid2).wf = true; rw [hpid]; exact HWF.out) (by show look S pid2 = _; rw [hpid]; exact HL.out) HOK.out
  simp only at hr
  rw [hpid] at hr
  have H5 := Lib.hid h5; have K5 := Lib.hid k5; have HG := Lib.hid hgm
  clear h4 h5 k5 hgm hpid
  go_wp2_with fail
  go_ret
  refine ⟨rfl, ⟨mg, HBs.out, H5.out⟩, ⟨(Keep.of_below B4.out _).trans (K5.out.mono fun q hq => .inl ?_), fun q hq => .inl hq⟩⟩
  rw [HBs.out, HG.out]
  simpa using .inr (by simpa using hq)
end
end Go.Proofs.Ytlfnkplgjlpaaaa
