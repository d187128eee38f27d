/- awake; no detector; DetectNil: the walk. -/
import Derived.Test.YtlfnkplgjlpaaaaChg
namespace Go.Proofs.Ytlfnkplgjlpaaaa
open Go.RowKit Go.Sort
set_option linter.unusedVariables false

set_option maxHeartbeats 2000000 in
theorem suspects_nil (now : Int) (w : World) : Calls Try.prog 13 #[.pointer none, .int .i64 now] w fun e w' => e = .returned (.slice none 0 0) ∧ Below w.heap.size w w' := by
  cases hT : isT now
  · exact (suspects_no _ now hT w).mono fun e w' ⟨h1, h2⟩ => ⟨h1, h2 ▸ Below.refl _ _⟩
  · have T1 := fun w => isTime_any now w
    rw [hT] at T1
    have T1 := Lib.hid T1
    clear hT
    go_enter Try.func13, Try.ntmps13
    go_wp2_with fail
    refine (T1.out _).mono ?_; rintro e w2 ⟨rfl, rfl⟩
    go_wp2_with fail
    refine (peers_nil _).mono ?_; rintro e w3 ⟨rfl, rfl⟩
    go_wp2_with fail
    go_loopw [5, 7, 14] (fun v5 v7 v14 wr => v5 = .slice none 0 0 ∧ v14 = .int .i64 0 ∧ wr = w2) (fun _ _ _ _ => 0)
    case atStart => exact ⟨rfl, rfl, rfl⟩
    case round =>
      obtain ⟨rfl, rfl, rfl⟩ := hrel
      go_wp2_with fail
      go_ret
      exact ⟨rfl, Below.refl _ _⟩
set_option maxHeartbeats 2000000 in
theorem changes_nil (now : Int) (w : World) : Calls Try.prog 17 #[.pointer none, .int .i64 now] w fun e w' => e = .returned (.slice none 0 0) ∧ Below w.heap.size w w' := by
  cases hT : isT now
  · exact (changes_no _ now hT w).mono fun e w' ⟨h1, h2⟩ => ⟨h1, h2 ▸ Below.refl _ _⟩
  · have T1 := fun w => isTime_any now w
    rw [hT] at T1
    have T1 := Lib.hid T1
    clear hT
    go_enter Try.func17, Try.ntmps17
    go_wp2_with fail
    refine (T1.out _).mono ?_; rintro e w2 ⟨rfl, rfl⟩
    go_wp2_with fail
    refine (peers_nil _).mono ?_; rintro e w3 ⟨rfl, rfl⟩
    go_wp2_with fail
    go_loopw [5, 7, 8, 9, 16] (fun v5 v7 v8 v9 v16 wr => v5 = .slice none 0 0 ∧ v16 = .int .i64 0 ∧ wr = w2) (fun _ _ _ _ _ _ => 0)
    case atStart => exact ⟨rfl, rfl, rfl⟩
    case round =>
      obtain ⟨rfl, rfl, rfl⟩ := hrel
      go_wp2_with fail
      go_ret
      exact ⟨rfl, Below.refl _ _⟩

/-- the example's node -/
abbrev nA : Nd := newN 10 3 100
theorem turned_below {Bs Bs' : List Nat} {w0 w w' : World} {B : Nat} (h : Below B w0 w) (t : Turned Bs Bs' w w') (hs : B ≤ w.heap.size) (hb : ∀ q ∈ Bs, B ≤ q) : Below B w0 w' :=
  h.trans (t.keep.below hs hb)
set_option maxRecDepth 100000 in
set_option maxHeartbeats 4000000 in
theorem awake_any : Ret 8 #[] (.returned (.bool true)) := by
  intro w
  have N1 := Lib.hid (new_yes 10 (by omega) w)
  go_enter Try.func8, Try.ntmps8
  go_wp2_with fail
  refine N1.out.mono ?_; rintro e w1 ⟨hn, rfl, h1, b1⟩
  have W1 := Lib.hid (watch_yes 3 (by omega) (now := 100) (by omega) w1 h1 rfl (by simp))
  have HB1 := Lib.hid b1
  have hge := Lib.hid (show w.heap.size ≤ hn from (h1.blocks hn (by simp)).1)
  clear h1 b1 N1
  go_wp2_with fail
  refine W1.out.mono ?_; rintro e w2 ⟨Bs, rfl, h2, t2⟩
  have HB2 := Lib.hid (turned_below HB1.out t2 HB1.out.size (fun q hq => by have := hge.out; simp at hq; omega))
  have h2 : Det w2 w.heap.size hn Bs [nA] 10 := h2
  have S1 := Lib.hid (suspects_yes (now := 110) (by omega) w2 h2)
  have H2 := Lib.hid h2
  rw [show bads [nA] 110 = [] by decide] at S1
  clear h2 t2 W1
  go_wp2_with fail
  refine S1.out.mono ?_; rintro e w3 ⟨v3, rfl, o3, b3⟩
  have h3 := H2.out.below b3
  have S2 := Lib.hid (suspects_yes (now := 111) (by omega) w3 h3)
  rw [show bads [nA] 111 = [3] by decide] at S2
  obtain ⟨a3, c3, rfl, _, _⟩ := owns_shape o3
  have H3 := Lib.hid h3
  have HB3 := Lib.hid (below_next HB2.out b3)
  clear h3 b3 o3 S1
  go_wp2_with fail
  refine S2.out.mono ?_; rintro e w4 ⟨v4, rfl, o4, b4⟩
  have h4 := H3.out.below b4
  obtain ⟨a4, c4, rfl, _, _⟩ := owns_shape o4
  have HO4 := Lib.hid o4
  have HB4 := Lib.hid (below_next HB3.out b4)
  have BT := Lib.hid (beat_yes 3 (by decide) (now := 111) (by omega) w4 h4 (n := nA) rfl)
  have H4 := Lib.hid h4
  clear h4 b4 o4 S2
  go_wp2_with fail
  refine BT.out.mono ?_; rintro e w5 ⟨rfl, h5, t5⟩
  have HB5 := Lib.hid (turned_below HB4.out t5 HB4.out.size (fun q hq => (H4.out.blocks q hq).1))
  have WT := Lib.hid (waitM_yes 3 (by decide) w5 h5 (n := nA.heard 111) rfl (h5.found (id := 3) rfl).1)
  rw [show (nA.heard 111).wait = 21 by decide] at WT
  have o5 := Lib.hid (owns_keep HO4.out t5.keep (fun g hg hm => by have := (HO4.out.lt g hg).1; have := (H3.out.blocks g hm).2; omega))
  clear h5 t5 BT
  go_wp2_with fail
  refine WT.out.mono ?_; rintro e w6 ⟨rfl, b6⟩
  have o6 := owns_keep o5.out (Keep.of_below b6 []) (by simp)
  obtain ⟨g, v, rfl, hg1, hg2, hv1, hv2, _⟩ := owns_cell1 o6 0 (by simp)
  obtain rfl : v = .int .i64 3 := by simpa using hv1.symm
  have HB6 := Lib.hid (below_next HB5.out b6)
  clear b6 o6 WT
  go_wp2_with fail
  go_ret
  exact ⟨rfl, HB6.out⟩

set_option maxRecDepth 100000 in
set_option maxHeartbeats 4000000 in
theorem detectNil_law (p : Int) (wp : (Lit.int .i64 p).wf = true) (now : Int) (wn : (Lit.int .i64 now).wf = true) (W : World) :
    Calls Try.prog 6 #[.int .i64 p, .int .i64 now] W (LawOk W) := by
  go_enter Try.func6, Try.ntmps6
  go_wp2_with fail
  refine (awake_any W).mono ?_; rintro e w1 ⟨rfl, b1⟩
  have HB := Lib.hid b1; clear b1
  go_wp2_with fail
  refine (waitM_nil p w1).mono ?_; rintro e w2 ⟨rfl, b2⟩
  have HB := Lib.hid (below_next HB.out b2); clear b2
  go_wp2_with fail
  refine (watch_nil p now w2).mono ?_; rintro e w3 ⟨rfl, rfl⟩
  go_wp2_with fail
  refine (leave_nil p w2).mono ?_; rintro e w4 ⟨rfl, b4⟩
  have HB := Lib.hid (below_next HB.out b4); clear b4
  go_wp2_with fail
  refine (beat_nil p now w4).mono ?_; rintro e w5 ⟨rfl, b5⟩
  have HB := Lib.hid (below_next HB.out b5); clear b5
  go_wp2_with fail
  refine (suspects_nil now w5).mono ?_; rintro e w6 ⟨rfl, b6⟩
  have HB := Lib.hid (below_next HB.out b6); clear b6
  go_wp2_with fail
  refine (changes_nil now w6).mono ?_; rintro e w7 ⟨rfl, b7⟩
  have HB := Lib.hid (below_next HB.out b7); clear b7
  go_wp2_with fail
  refine (peers_nil w7).mono ?_; rintro e w8 ⟨rfl, rfl⟩
  go_wp2_with fail
  go_ret
  exact ⟨rfl, HB.out⟩
end Go.Proofs.Ytlfnkplgjlpaaaa
