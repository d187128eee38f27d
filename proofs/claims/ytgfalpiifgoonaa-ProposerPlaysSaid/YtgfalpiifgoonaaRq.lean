/- The document's Promise. -/
import Derived.Test.YtgfalpiifgoonaaRp
import Derived.Deep.CutRange
import Derived.Deep.RegionLaw
namespace Go.Proofs.Ytgfalpiifgoonaa
open Go.RowKit Go.Sort
set_option linter.unusedVariables false
set_option linter.unusedSectionVars false
set_option linter.unusedSimpArgs false
set_option maxRecDepth 100000

theorem neq_bn {a b : Bl} (h : ¬ a = b) (w : World) : (binOp .neq 34 (.agg #[.int .u32 a.round, .int .u8 a.node]) (.agg #[.int .u32 b.round, .int .u8 b.node])).run Try.prog w = .ok (.bool true) w := by
  have hu := Try.underlying34
  rw [run_neq_struct, run_equalIn_agg w 9999 _ _ _ (by kernel_rfl) (by kernel_rfl)]
  rw [show (Try.prog.fieldsOf 34) = _ from by unfold Program.fieldsOf; rw [hu]]
  obtain ⟨a, c⟩ := a
  obtain ⟨b, d⟩ := b
  go_simp
  by_cases h1 : a = b <;> by_cases h2 : c = d <;> simp_all
theorem neq_b1 (a : Bl) (w : World) : (binOp .neq 34 (.agg #[.int .u32 a.round, .int .u8 a.node]) (.agg #[.int .u32 a.round, .int .u8 a.node])).run Try.prog w = .ok (.bool false) w := by
  have hu := Try.underlying34
  rw [run_neq_struct, run_equalIn_agg w 9999 _ _ _ (by kernel_rfl) (by kernel_rfl)]
  rw [show (Try.prog.fieldsOf 34) = _ from by unfold Program.fieldsOf; rw [hu]]
  go_simp
theorem owns_at {w : World} {B : Nat} {e : TypeId} {z : Nat} {ao : Option Addr} {n cap : Nat} {xs : List Value} (ho : w.ownsRow B e z (.slice ao n cap) n xs) (i : Nat) (hi : i < n * z) : ∃ g v, ao = some ⟨g, 0, none⟩ ∧ g < w.heap.size ∧ B ≤ g ∧ xs[i]? = some v ∧ w.cell? ⟨g, i, none⟩ = some v ∧ w.frozen? ⟨g, i, none⟩ = false := by
  have hl := ho.1
  rcases ho.2 with ⟨h2, h3⟩ | ⟨g, cap', cur, h2, hb, hg, h3, h4, h5, h6⟩
  · subst h3; omega
  · cases h2
    have hi2 : i < xs.length := by omega
    refine ⟨g, xs[i], rfl, (Array.getElem?_eq_some_iff.1 hg).1, hb, List.getElem?_eq_getElem hi2, ?_, frozen_of_row w g i cur _ hg⟩
    rw [cell_of_row w g i cur _ (0, 0) hg]
    have := congrArg (·[i]?) h6
    simp only [List.getElem?_take] at this
    rw [if_pos (by omega), Array.getElem?_toList] at this
    rw [this, List.getElem?_eq_getElem hi2]
theorem ac_info : (Try.prog.info? 42).map (fun i => (i.zero, i.size, i.bytes)) = some (some (.agg #[.bool false, .int .u32 0, .int .u8 0, .string ⟨#[]⟩]), 4, 32) := by kernel_rfl
def foldA (own : ByteArray) (L : List Ac) : Ac := L.foldl wg ⟨false, b0, own⟩
structure RPR where
  s : Rst
  v : ByteArray
  ok : Bool
def rprm (n : Nat) (s : Rst) (fr : Int) (b : Bl) (a : Ac) : RPR :=
  if s.bal.round = 0 ∨ ¬ b = s.bal ∨ fr < 0 ∨ (n : Int) ≤ fr then ⟨s, nov, false⟩
  else if fr ∈ s.F then ⟨s, nov, false⟩
  else if 2 * (s.L.length + 1) ≤ n ∨ n < 2 * s.L.length then ⟨⟨s.bal, s.own, s.F ++ [fr], s.L ++ [a]⟩, nov, false⟩
  else ⟨⟨s.bal, s.own, s.F ++ [fr], s.L ++ [a]⟩, (foldA s.own (s.L ++ [a])).v, true⟩
theorem Turned.trans {a b c : World} {A B C : List Nat} (h : Turned A B a b) (k : Turned B C b c) (hA : ∀ q ∈ A, q < a.heap.size) : Turned A C a c := by
  refine ⟨h.keep.cut k.keep fun q hq => h.new q hq, fun q hq => ?_⟩
  rcases k.new q hq with h1 | h1
  · exact h.new q h1
  · have := h.keep.size; exact .inr (by omega)
section
variable {w w' : World} {B hb fc lc node n : Nat} {fo lo : Option Addr} {s : Rst} {Bs Bs' : List Nat} {b : Bl} {a : Ac}
set_option maxHeartbeats 3200000 in
theorem rpromise_no (fr : Int) (hno : s.bal.round = 0 ∨ ¬ b = s.bal ∨ fr < 0 ∨ (n : Int) ≤ fr) (w : World) (h : RpW w B hb fo fc lo lc node n s) (hr0 : 0 ≤ s.bal.round) :
    Calls Try.prog 15 #[.pointer (some ⟨hb, 0, none⟩), .int .i64 fr, b.ag, a.ag] w fun e w' => e = .returned (.tuple #[.string ⟨#[]⟩, .bool false]) ∧ Below w.heap.size w w' := by
  have HNO := Lib.hid hno
  have HR0 := Lib.hid hr0
  clear hno hr0
  obtain ⟨W, hW⟩ : ∃ W, W = (w.alloc b.obj).alloc a.obj := ⟨_, rfl⟩
  have bW : Below w.heap.size w W := by rw [hW]; exact below_alloc (below_alloc (Below.refl _ _) _) _
  have hz : W.heap.size = w.heap.size + 2 := by rw [hW]; simp
  have ka : RowA W (w.heap.size + 1) a := by
    have := RowA.new (w.alloc b.obj) a
    rw [← hW, show (w.alloc b.obj).heap.size = w.heap.size + 1 by simp] at this; exact this
  have kb : Row2 W w.heap.size b := by
    have := (Row2.new w b).below (below_alloc (Below.refl _ _) a.obj)
    rw [← hW] at this; exact this
  have T := Lib.hid (h.below bW)
  have BW := Lib.hid bW; have KA := Lib.hid ka; have KB := Lib.hid kb
  have HL := Lib.hid h.blocks
  have HZ := Lib.hid hz
  obtain ⟨_, c1', c2, c3, _⟩ := RowR.all T.out.row
  obtain ⟨d0, d1, _, _⟩ := Row2.all kb
  have x1 := cell_regrown c1'; have x2 := cell_regrown c2; have x3 := cell_regrown c3; have x4 := cell_regrown d0; have x5 := cell_regrown d1
  simp only [Bl.obj, Ac.obj] at hW
  clear bW ka kb hz c1' c2 c3 d0 d1
  go_enter Try.func15, Try.ntmps15
  go_upto_region 1 with (fail)
  rw [← hW]
  clear hW
  generalize hbi : w.heap.size = bi at *
  by_cases h0 : s.bal.round = 0
  · rw [h0] at x2
    clear h0
    refine wp_region_quiet_below (by kernel_rfl) (by kernel_rfl) ?_
    repeat (go_big_quiet_step (fail))
    refine wpQuiet_nil ?_
    intro _ hw'
    obtain ⟨⟨dq, osq⟩, hw''⟩ := hw'
    subst hw''
    have lk := below_regrown W dq osq
    have B1 := Lib.hid (BW.out.trans (lk.mono (by have := HZ.out; omega)))
    clear x1 x2 x3 x4 x5 lk T KA KB HL BW
    go_wp2_with fail
    go_ret2
    exact ⟨rfl, by first | exact B1.out | (rw [hbi]; exact B1.out)⟩
  · have hr : 0 < s.bal.round := by have := HR0.out; omega
    have hrb : (s.bal.round == 0) = false := by simpa using h0
    by_cases hb2 : b = s.bal
    · have E := neq_b1 s.bal
      rw [hb2] at x4 x5
      by_cases h1 : fr < 0
      · have h1d : decide (fr < 0) = true := decide_eq_true h1
        refine wp_region_quiet_below (by kernel_rfl) (by kernel_rfl) ?_
        repeat (go_big_quiet_step (fail))
        refine wpQuiet_nil ?_
        intro _ hw'
        obtain ⟨⟨dq, osq⟩, hw''⟩ := hw'
        subst hw''
        have lk := below_regrown W dq osq
        have B1 := Lib.hid (BW.out.trans (lk.mono (by have := HZ.out; omega)))
        clear x1 x2 x3 x4 x5 lk T KA KB HL BW
        go_wp2_with fail
        go_ret2
        exact ⟨rfl, by first | exact B1.out | (rw [hbi]; exact B1.out)⟩
      · have h2 : (n : Int) ≤ fr := by
          rcases HNO.out with h | h | h | h
          · exact absurd h h0
          · exact absurd hb2 h
          · exact absurd h h1
          · exact h
        have h1d : decide (fr < 0) = false := decide_eq_false h1
        have h2d : decide ((n : Int) ≤ fr) = true := decide_eq_true h2
        refine wp_region_quiet_below (by kernel_rfl) (by kernel_rfl) ?_
        repeat (go_big_quiet_step (fail))
        refine wpQuiet_nil ?_
        intro _ hw'
        obtain ⟨⟨dq, osq⟩, hw''⟩ := hw'
        subst hw''
        have lk := below_regrown W dq osq
        have B1 := Lib.hid (BW.out.trans (lk.mono (by have := HZ.out; omega)))
        clear x1 x2 x3 x4 x5 lk T KA KB HL BW
        go_wp2_with fail
        go_ret2
        exact ⟨rfl, by first | exact B1.out | (rw [hbi]; exact B1.out)⟩
    · have E := neq_bn hb2
      refine wp_region_quiet_below (by kernel_rfl) (by kernel_rfl) ?_
      repeat (go_big_quiet_step (fail))
      refine wpQuiet_nil ?_
      intro _ hw'
      obtain ⟨⟨dq, osq⟩, hw''⟩ := hw'
      subst hw''
      have lk := below_regrown W dq osq
      have B1 := Lib.hid (BW.out.trans (lk.mono (by have := HZ.out; omega)))
      clear x1 x2 x3 x4 x5 lk T KA KB HL BW
      go_wp2_with fail
      go_ret2
      exact ⟨rfl, by first | exact B1.out | (rw [hbi]; exact B1.out)⟩
/-- what Promise leaves, of a ballot that is meant -/
def RqEnd (w : World) (B hb : Nat) (fo lo : Option Addr) (node n : Nat) (s : Rst) (fr : Int) (a : Ac) (e : Ending) (w' : World) : Prop :=
  if fr ∈ s.F then e = .returned (.tuple #[.string ⟨#[]⟩, .bool false]) ∧ Below w.heap.size w w'
  else (e = if 2 * (s.L.length + 1) ≤ n ∨ n < 2 * s.L.length then .returned (.tuple #[.string ⟨#[]⟩, .bool false]) else .returned (.tuple #[.string (foldA s.own (s.L ++ [a])).v, .bool true])) ∧
    ∃ fo' fc' lo' lc', RpW w' B hb fo' fc' lo' lc' node n ⟨s.bal, s.own, s.F ++ [fr], s.L ++ [a]⟩ ∧ Turned (hb :: (blk fo ++ blk lo)) (hb :: (blk fo' ++ blk lo')) w w'
set_option maxHeartbeats 6400000 in
theorem rpromise_yes (k : Nat) (hk : k < n) (hb2 : b = s.bal) (hr : 0 < s.bal.round) (hfew : ¬ (k : Int) ∈ s.F → s.F.length < 9 ∧ s.L.length < 9) (w : World) (h : RpW w B hb fo fc lo lc node n s) (hB : B ≤ w.heap.size) :
    Calls Try.prog 15 #[.pointer (some ⟨hb, 0, none⟩), .int .i64 (k : Int), b.ag, a.ag] w (RqEnd w B hb fo lo node n s (k : Int) a) := by
  have HBB := Lib.hid hB
  have HK := Lib.hid hk
  have HFW := Lib.hid hfew
  have HL0 := Lib.hid (show ∀ q ∈ hb :: (blk fo ++ blk lo), q < w.heap.size from fun q hq => (h.blocks q hq).2)
  have HB2 := Lib.hid hb2
  clear hb2
  obtain ⟨W, hW⟩ : ∃ W, W = (w.alloc b.obj).alloc a.obj := ⟨_, rfl⟩
  have bW : Below w.heap.size w W := by rw [hW]; exact below_alloc (below_alloc (Below.refl _ _) _) _
  have hz : W.heap.size = w.heap.size + 2 := by rw [hW]; simp
  have ka : RowA W (w.heap.size + 1) a := by
    have := RowA.new (w.alloc b.obj) a
    rw [← hW, show (w.alloc b.obj).heap.size = w.heap.size + 1 by simp] at this; exact this
  have kb : Row2 W w.heap.size b := by
    have := (Row2.new w b).below (below_alloc (Below.refl _ _) a.obj)
    rw [← hW] at this; exact this
  have T := Lib.hid (h.below bW)
  have BW := Lib.hid bW; have KA := Lib.hid ka; have KB := Lib.hid kb
  have HL := Lib.hid h.blocks
  have HZ := Lib.hid hz
  obtain ⟨_, c1', c2, c3, _⟩ := RowR.all T.out.row
  obtain ⟨d0, d1, _, _⟩ := Row2.all kb
  have x1 := cell_regrown c1'; have x2 := cell_regrown c2; have x3 := cell_regrown c3; have x4 := cell_regrown d0; have x5 := cell_regrown d1
  simp only [Bl.obj, Ac.obj] at hW
  clear bW ka kb hz c1' c2 c3 d0 d1
  go_enter Try.func15, Try.ntmps15
  go_upto_region 1 with (fail)
  rw [← hW]
  clear hW
  generalize hbi : w.heap.size = bi at *
  have hrb : (s.bal.round == 0) = false := by
    have : ¬ s.bal.round = 0 := by omega
    simpa using this
  have E := neq_b1 s.bal
  rw [HB2.out] at x4 x5
  have h1d : decide ((k : Int) < 0) = false := decide_eq_false (by omega)
  have h2d : decide ((n : Int) ≤ (k : Int)) = false := decide_eq_false (by omega)
  have h2e : decide (n ≤ k) = false := decide_eq_false (by omega)
  refine wp_region_quiet_below (by kernel_rfl) (by kernel_rfl) ?_
  repeat (go_big_quiet_step (fail))
  refine wpQuiet_nil ?_
  intro _ hw'
  obtain ⟨⟨dq, osq⟩, hw''⟩ := hw'
  subst hw''
  have lk := below_regrown W dq osq
  have T1 := Lib.hid (T.out.below lk)
  have KA1 := Lib.hid (RowA.below KA.out lk)
  have B1 := Lib.hid (BW.out.trans (lk.mono (by have := HZ.out; omega)))
  have HZ1 := Lib.hid (show bi + 2 ≤ (grow (redrawn W dq) osq).heap.size by have := lk.size; have := HZ.out; omega)
  clear x1 x2 x3 x4 x5 lk T KA KB BW HZ E hrb
  generalize grow (redrawn W dq) osq = w1 at *
  have HH := Lib.hid (RpW.mk h.row h.ownF h.ownL h.base h.apF h.apL h.ap h.few h.fewL h.nd h.n1 h.n9)
  clear h hk hfew
  obtain ⟨_, _, _, _, _, c5, _⟩ := RowR.all T1.out.row
  have hfl : (s.F.length : Int) ≤ 9 := by have := T1.out.few; omega
  go_wp2_with fail
  go_loop [10] (fun v10 => ∃ q : Nat, v10 = .int .i64 (q : Int) ∧ q ≤ s.F.length ∧ ∀ i, i < q → s.F[i]? ≠ some (k : Int)) (fun v10 => s.F.length - (intOf v10).toNat)
  case atStart => exact ⟨0, rfl, Nat.zero_le _, fun i h => absurd h (by omega)⟩
  case round =>
    obtain ⟨q, rfl, hq1, hq2⟩ := hrel
    have hq0 : (0 : Int) ≤ (q : Int) := by omega
    by_cases hlt : q < s.F.length
    · have hlt1 : (q : Int) < (s.F.length : Int) := by omega
      have hlt9 : (q : Int) ≤ 9 := by omega
      obtain ⟨g, vv, e1, _, _, hv1, hv2, _⟩ := owns_at T1.out.ownF q (by omega)
      have hv3 : (fl c1 s.F)[q]? = some (.int .i64 s.F[q]) := by
        have := fl_at (c := c1) c1_len s.F q 0 (by omega)
        rw [Nat.mul_one, Nat.add_zero] at this
        rw [this, List.getElem?_eq_getElem hlt]; rfl
      rw [hv3] at hv1
      cases hv1
      have HFQ := Lib.hid (show s.F[q]? = some s.F[q] from List.getElem?_eq_getElem hlt)
      generalize s.F[q] = fq at *
      rw [e1] at c5
      have hHQ := Lib.hid hq2
      clear hv3 hq2
      by_cases hf : fq = (k : Int)
      · have hfb : (fq == (k : Int)) = true := by simpa using hf
        have HM := Lib.hid (show (k : Int) ∈ s.F from by have := List.mem_of_getElem? HFQ.out; rw [hf] at this; exact this)
        clear hf
        go_wp2_with fail
        go_ret2
        unfold RqEnd
        rw [if_pos HM.out]
        exact ⟨rfl, by first | exact B1.out | (rw [hbi]; exact B1.out)⟩
      · have hfb : (fq == (k : Int)) = false := by simpa using hf
        have HN := Lib.hid (show ∀ i, i < q + 1 → s.F[i]? ≠ some (k : Int) from fun i hi => by
          by_cases e : i = q
          · subst e; rw [HFQ.out]; intro h; cases h; exact hf rfl
          · exact hHQ.out i (by omega))
        clear hf
        go_wp2_with fail
        go_round
        case rel => exact ⟨q + 1, by go_num, by omega, HN.out⟩
        case measure => simp [intOf]; omega
    · obtain rfl : q = s.F.length := by omega
      have HN := Lib.hid (show ¬ (k : Int) ∈ s.F from fun hm => by
        obtain ⟨i, hi, he⟩ := List.mem_iff_getElem.1 hm
        exact hq2 i hi (by rw [List.getElem?_eq_getElem hi, he]))
      clear hq2
      have f5 := RowR.fr T1.out.row 5
      obtain ⟨i0, hi, hz0, hz1, hz2⟩ := info_parts int_info
      have HI := Lib.hid hi; have HZa := Lib.hid hz0; have HZb := Lib.hid hz1; have HZc := Lib.hid hz2
      clear hi hz0 hz1 hz2
      obtain ⟨fl_, hfl_⟩ : ∃ m, s.F.length = m := ⟨_, rfl⟩
      have HFL := Lib.hid hfl_
      have HOF := Lib.hid (show w1.ownsRow B 3 1 (.slice fo fl_ fc) fl_ (fl c1 s.F) by rw [← hfl_]; exact T1.out.ownF)
      have hfl9 : fl_ < 9 := by rw [← hfl_]; exact (HFW.out HN.out).1
      have hB1 : B ≤ w1.heap.size := by have := HBB.out; have := B1.out.size; omega
      rw [hfl_] at c5 ⊢
      clear hfl_ hfl hq0 hq1 hlt
      have HHB := Lib.hid (show hb < w1.heap.size ∧ hb ∉ blk fo ∧ hb ∉ blk lo ∧ (∀ q ∈ blk fo, q ∉ blk lo) from ⟨T1.out.hlt, T1.out.apF, T1.out.apL, T1.out.ap⟩)
      have C5 := Lib.hid c5; have F5 := Lib.hid f5
      go_wp2_with (at_builtin; refine wpList_append_lies _ rfl (.tmp 64) (.tmp 66) 35 rfl B 3 i0 (.int .i64 0) 1 8 Try.underlying35 HI.out HZa.out HZb.out HZc.out rfl (by omega) (.slice fo fl_ fc) fl_ (fl c1 s.F) rfl (owns_keep HOF.out (Keep.of_below (below_alloc (Below.refl _ w1) _) []) (by simp)) ⟨w1.heap.size, 0, none⟩ 1 1 [.int .i64 (k : Int)] rfl rfl (cell_one _ _ _) (one_i64 _) (by omega) (by unfold maxLen; omega) (by omega) (by simp; omega) (w1.heap.size + 1) (by simp) ?_; intro gg cap1 w2 hown2 hgrow2 hat2 hlt2; have kg := (Keep.of_below (below_alloc (Below.refl _ w1) (.cells #[.int .i64 (k : Int)] 3)) (blk fo)).trans (keep_grown hgrow2); have c5 := (kg.cell (a := ⟨hb, 5, none⟩) HHB.out.1 HHB.out.2.1).trans C5.out; have f5 := (kg.frozen (a := ⟨hb, 5, none⟩) HHB.out.1 HHB.out.2.1).trans F5.out)
      have HS := Lib.hid (T1.out.appF (k := (k : Int)) HFL.out hfl9 (below_alloc (Below.refl _ w1) (.cells #[.int .i64 (k : Int)] 3)) hgrow2 hown2 hat2 (by omega) hB1)
      have KA2 := Lib.hid (show RowA (w2.setCell ⟨hb, 5, none⟩ (.slice (some ⟨gg, 0, none⟩) (fl_ + 1) cap1)) (bi + 1) a from row_keep KA1.out HS.out.2.keep (by
        have h1 := HL.out
        intro hq
        have := (h1 _ hq).2
        omega))
      have HB2' := Lib.hid (show B ≤ (w2.setCell ⟨hb, 5, none⟩ (.slice (some ⟨gg, 0, none⟩) (fl_ + 1) cap1)).heap.size from Nat.le_trans hB1 HS.out.2.keep.size)
      have TW := Lib.hid (show Turned (hb :: (blk fo ++ blk lo)) (hb :: (blk (some (⟨gg, 0, none⟩ : Addr)) ++ blk lo)) w (w2.setCell ⟨hb, 5, none⟩ (.slice (some ⟨gg, 0, none⟩) (fl_ + 1) cap1)) from (Turned.below (by rw [hbi]; exact B1.out)).trans HS.out.2 (by rw [hbi]; exact HL0.out))
      clear kg hown2 hgrow2 hat2 hlt2 c5 f5 C5 F5 KA1 HOF HI HZa HZb HZc
      generalize w2.setCell ⟨hb, 5, none⟩ (.slice (some ⟨gg, 0, none⟩) (fl_ + 1) cap1) = w3 at *
      clear T1 HHB hB1
      obtain ⟨ll, hll⟩ : ∃ m, s.L.length = m := ⟨_, rfl⟩
      have HLL := Lib.hid hll
      have hll9 : ll < 9 := by rw [← hll]; exact (HFW.out HN.out).2
      have r3 := HS.out.1.row
      simp only [hll] at r3
      obtain ⟨_, _, _, _, _, _, c6⟩ := RowR.all r3
      have f6 := RowR.fr r3 6
      obtain ⟨a0', a1, a2, a3, _⟩ := RowA.all KA2.out
      have HOL := Lib.hid (show w3.ownsRow B 42 4 (.slice lo ll lc) ll (fl cA s.L) by have := HS.out.1.ownL; simp only [hll] at this; exact this)
      have HHB := Lib.hid (show hb < w3.heap.size ∧ hb ∉ blk lo from ⟨HS.out.1.hlt, HS.out.1.apL⟩)
      have C6 := Lib.hid c6; have F6 := Lib.hid f6
      have hBs : B ≤ w3.heap.size := HB2'.out
      obtain ⟨i0, hi, hz0, hz1, hz2⟩ := info_parts ac_info
      have HI := Lib.hid hi; have HZa := Lib.hid hz0; have HZb := Lib.hid hz1; have HZc := Lib.hid hz2
      have hhb : hb < w3.heap.size := HHB.out.1
      clear hi hz0 hz1 hz2 hll r3
      go_cut [] from 70 to 79 (fun wx => ∃ g2 cap2, RpW wx B hb (some ⟨gg, 0, none⟩) cap1 (some ⟨g2, 0, none⟩) cap2 node n ⟨s.bal, s.own, s.F ++ [(k : Int)], s.L ++ [a]⟩ ∧ Turned (hb :: (blk (some (⟨gg, 0, none⟩ : Addr)) ++ blk lo)) (hb :: (blk (some (⟨gg, 0, none⟩ : Addr)) ++ blk (some (⟨g2, 0, none⟩ : Addr)))) w3 wx)
      case first =>
        go_region_law (first
          | (refine step_append_lies _ (by rfl) (.tmp 74) (.tmp 76) 36 (by rfl) B 42 i0 _ 4 32 Try.underlying36 HI.out HZa.out HZb.out HZc.out rfl (by omega) (.slice lo ll lc) ll (fl cA s.L) (by rfl) (owns_keep HOL.out (Keep.of_below ((below_alloc (Below.refl _ w3) _).drew) []) (by simp)) ⟨w3.heap.size, 0, none⟩ 1 1 (cA a) (by rfl) (by rfl) (World.news_of_block (cs := #[.bool a.is, .int .u32 a.b.round, .int .u8 a.b.node, .string a.v]) (t := 42) (fr := (0, 0)) (heap_alloc_new w3 _)) (by simp [Value.oneCell']) (by omega) (by unfold maxLen; omega) (by omega) (by simp; omega) (w3.heap.size + 1) (by simp) ?_; intro g2 cap2 w6 hown6 hgrow6 hat6 hlt6; have kg := (Keep.of_below ((below_alloc (Below.refl _ w3) _).drew) (blk lo)).trans (keep_grown hgrow6); have cl1 := (kg.cell (a := ⟨hb, 6, none⟩) HHB.out.1 HHB.out.2).trans C6.out; have fr1 := (kg.frozen (a := ⟨hb, 6, none⟩) HHB.out.1 HHB.out.2).trans F6.out))
        all_goals have HE := Lib.hid (HS.out.1.appL (a := a) HLL.out hll9 ((below_alloc (Below.refl _ w3) (.cells #[.bool a.is, .int .u32 a.b.round, .int .u8 a.b.node, .string a.v] 42)).drew) hgrow6 hown6 hat6 (by omega) hBs)
        all_goals clear kg hown6 hgrow6 hat6 cl1 fr1 C6 F6 c6 f6 a0' a1 a2 a3 KA2
        all_goals go_wp2_with fail
        all_goals go_meet
        all_goals exact ⟨g2, cap2, HE.out.1, HE.out.2⟩
      case rest =>
        obtain ⟨g2, cap2, h4, t4⟩ := hcut
        have TW4 := Lib.hid (TW.out.trans t4 (by rw [hbi]; exact HL0.out))
        have T4 := Lib.hid h4
        have HN2 := Lib.hid (show (⟨s.bal, s.own, s.F ++ [(k : Int)], s.L ++ [a]⟩ : Rst).L.length = ll + 1 by simp only [List.length_append, HLL.out]; rfl)
        clear h4 t4 c6 f6 a0' a1 a2 a3 C6 F6 KA2 HOL HHB hhb hBs HI HZa HZb HZc HS
        obtain ⟨s2, hs2⟩ : ∃ s2 : Rst, (⟨s.bal, s.own, s.F ++ [(k : Int)], s.L ++ [a]⟩ : Rst) = s2 := ⟨_, rfl⟩
        rw [hs2] at T4 HN2
        have HS2 := Lib.hid hs2
        clear hs2
        obtain ⟨_, c1', _, _, c4, _, c6⟩ := RowR.all T4.out.row
        obtain ⟨m1, hm1⟩ : ∃ m1, ll + 1 = m1 := ⟨_, rfl⟩
        rw [HN2.out, hm1] at c6
        have x1 := cell_regrown c1'; have x6 := cell_regrown c6
        clear c1' c6 c4
        have hn9 : (n : Int) ≤ 9 := by have := T4.out.n9; omega
        have hn0 : (0 : Int) ≤ (n : Int) := by omega
        have hll0 : (0 : Int) ≤ (ll : Int) := by omega
        have hll9i : (ll : Int) < 9 := by omega
        have hm0 : (1 : Int) ≤ (m1 : Int) := by omega
        have hm9 : (m1 : Int) ≤ 9 := by omega
        have e2 : IntKind.i64.wrap ((m1 : Int) - 1) = (ll : Int) := by rw [IntWalk.i64_in _ (by omega)]; omega
        have e3 : IntKind.i64.wrap (2 * (ll : Int)) = 2 * (ll : Int) := IntWalk.i64_in _ (by omega)
        have e4 : IntKind.i64.wrap (2 * (m1 : Int)) = 2 * (m1 : Int) := IntWalk.i64_in _ (by omega)
        have HM1 := Lib.hid hm1
        clear hm1
        go_upto_region 10 with (fail)
        by_cases hc1 : 2 * (ll + 1) ≤ n
        · have hd1 : decide (2 * (m1 : Int) ≤ (n : Int)) = true := decide_eq_true (by have := HM1.out; omega)
          refine wp_region_quiet_below (by kernel_rfl) (by kernel_rfl) ?_
          repeat (go_big_quiet_step (fail))
          refine wpQuiet_nil ?_
          intro _ hw'
          obtain ⟨⟨dq2, osq2⟩, hw''⟩ := hw'
          subst hw''
          have lk := below_regrown wc dq2 osq2
          have T5 := Lib.hid (T4.out.below lk)
          have TW5 := Lib.hid (TW4.out.trans (Turned.below lk) (by rw [hbi]; exact HL0.out))
          clear x1 x6 lk T4 TW4 e2 e3 e4 hd1
          go_wp2_with fail
          go_ret2
          unfold RqEnd
          rw [if_neg HN.out]
          rw [HLL.out, if_pos (.inl hc1)]
          refine ⟨rfl, some ⟨gg, 0, none⟩, cap1, some ⟨g2, 0, none⟩, cap2, ?_, TW5.out⟩
          rw [HS2.out]
          exact T5.out
        · have hd1 : decide (2 * (m1 : Int) ≤ (n : Int)) = false := decide_eq_false (by have := HM1.out; omega)
          by_cases hc2 : n < 2 * ll
          · have hd2 : decide ((n : Int) < 2 * (ll : Int)) = true := decide_eq_true (by omega)
            refine wp_region_quiet_below (by kernel_rfl) (by kernel_rfl) ?_
            repeat (go_big_quiet_step (fail))
            refine wpQuiet_nil ?_
            intro _ hw'
            obtain ⟨⟨dq2, osq2⟩, hw''⟩ := hw'
            subst hw''
            have lk := below_regrown wc dq2 osq2
            have T5 := Lib.hid (T4.out.below lk)
            have TW5 := Lib.hid (TW4.out.trans (Turned.below lk) (by rw [hbi]; exact HL0.out))
            clear x1 x6 lk T4 TW4 e2 e3 e4 hd1 hd2
            go_wp2_with fail
            go_ret2
            unfold RqEnd
            rw [if_neg HN.out]
            rw [HLL.out, if_pos (.inr hc2)]
            refine ⟨rfl, some ⟨gg, 0, none⟩, cap1, some ⟨g2, 0, none⟩, cap2, ?_, TW5.out⟩
            rw [HS2.out]
            exact T5.out
          · have hd2 : decide ((n : Int) < 2 * (ll : Int)) = false := decide_eq_false (by omega)
            refine wp_region_quiet_below (by kernel_rfl) (by kernel_rfl) ?_
            repeat (go_big_quiet_step (fail))
            refine wpQuiet_nil ?_
            intro _ hw'
            obtain ⟨⟨dq2, osq2⟩, hw''⟩ := hw'
            subst hw''
            have lk := below_regrown wc dq2 osq2
            have T5 := Lib.hid (T4.out.below lk)
            have TW5 := Lib.hid (TW4.out.trans (Turned.below lk) (by rw [hbi]; exact HL0.out))
            clear x1 x6 lk T4 TW4 e2 e3 e4 hd1 hd2
            generalize grow (redrawn wc dq2) osq2 = w5 at *
            obtain ⟨_, _, _, _, c4, _, _⟩ := RowR.all T5.out.row
            have b6 := below_alloc (Below.refl w5.heap.size w5) (Bl.obj b0)
            have T6 := Lib.hid (T5.out.below b6)
            have TW6 := Lib.hid (TW5.out.trans (Turned.below b6) (by rw [hbi]; exact HL0.out))
            have Q6 := Lib.hid (Row2.new w5 b0)
            have HBQ := Lib.hid (show hb < w5.heap.size ∧ (∀ q ∈ hb :: (blk (some (⟨gg, 0, none⟩ : Addr)) ++ blk (some (⟨g2, 0, none⟩ : Addr))), q < w5.heap.size) from ⟨T5.out.hlt, fun q hq => (T5.out.blocks q hq).2⟩)
            have HW5 := Lib.hid (show w.heap.size ≤ w5.heap.size from TW5.out.keep.size)
            go_upto_region 14 with (fail)
            clear c4
            simp only [Bl.obj] at T6 TW6 Q6
            clear T5 TW5 b6
            generalize w5.alloc (.cells #[.int .u32 0, .int .u8 0] 34) = w6 at *
            generalize w5.heap.size = bq at *
            go_wp2_with fail
            go_loopw [11, 13, 14] (fun v11 v13 v14 wx => ∃ q : Nat, v14 = .int .i64 (q : Int) ∧ q ≤ m1 ∧ v11 = .string (foldA s2.own (s2.L.take q)).v ∧ v13 = .bool (foldA s2.own (s2.L.take q)).is ∧ Row2 wx bq (foldA s2.own (s2.L.take q)).b ∧ RpW wx B hb (some ⟨gg, 0, none⟩) cap1 (some ⟨g2, 0, none⟩) cap2 node n s2 ∧ Turned (hb :: (blk fo ++ blk lo)) (hb :: (blk (some (⟨gg, 0, none⟩ : Addr)) ++ blk (some (⟨g2, 0, none⟩ : Addr)))) w wx) (fun _ _ v14 _ => m1 - (intOf v14).toNat)
            case atStart => exact ⟨0, rfl, Nat.zero_le _, by rw [← HS2.out]; rfl, rfl, Q6.out, T6.out, TW6.out⟩
            case round =>
              obtain ⟨q, rfl, hq1, rfl, rfl, hQ, hT, hTW⟩ := hrel
              clear Q6 T6 TW6
              have hq0 : (0 : Int) ≤ (q : Int) := by omega
              obtain ⟨_, _, _, _, _, _, c6⟩ := RowR.all hT.row
              rw [HN2.out, HM1.out] at c6
              by_cases hlt : q < m1
              · have hlt1 : (q : Int) < (m1 : Int) := by omega
                have hql : q < s2.L.length := by rw [HN2.out]; have := HM1.out; omega
                obtain ⟨A, hA⟩ : ∃ A, s2.L[q]? = some A := ⟨_, List.getElem?_eq_getElem hql⟩
                have hcells : ∀ i v, (cA A)[i]? = some v → wr.cell? ⟨g2, q * 4 + i, none⟩ = some v := by
                  intro i v hv
                  have hi4 : i < 4 := (List.getElem?_eq_some_iff.1 hv).1
                  obtain ⟨g, vv, e1, _, _, hv1, hv2, _⟩ := owns_at hT.ownL (q * 4 + i) (by omega)
                  rw [fl_at cA_len s2.L q i hi4, hA] at hv1
                  simp only [Option.bind_some] at hv1
                  rw [hv] at hv1
                  cases hv1
                  cases e1
                  exact hv2
                have a0' := hcells 0 _ rfl; have a1 := hcells 1 _ rfl; have a2 := hcells 2 _ rfl; have a3 := hcells 3 _ rfl
                rw [Nat.add_zero] at a0'
                have HTK := Lib.hid (show foldA s2.own (s2.L.take (q + 1)) = wg (foldA s2.own (s2.L.take q)) A from by
                  rw [List.take_add_one, hA]
                  unfold foldA
                  rw [List.foldl_append]; rfl)
                generalize foldA s2.own (s2.L.take q) = acc at *
                obtain ⟨y0, y1, _, _⟩ := Row2.all hQ
                have x6 := cell_regrown c6; have x1 := cell_regrown a1; have x2 := cell_regrown a2; have z0 := cell_regrown y0; have z1 := cell_regrown y1
                have HQ := Lib.hid hQ; have HT := Lib.hid hT; have HTW := Lib.hid hTW
                have WL := Lib.hid (fun d os => Calls.regrown_of (rless_any acc.b A.b (grow (redrawn wr d) os)))
                have HCE := Lib.hid hcells
                clear hQ hT hTW a0' a1 a2 a3 y0 y1 hcells
                go_upto_region 18 with (fail)
                clear c6
                refine wp_region_quiet_below (by kernel_rfl) (by kernel_rfl) ?_
                repeat (go_big_quiet_step (exact WL.out _ _))
                refine wpQuiet_nil ?_
                intro _ hw'
                obtain ⟨⟨dq3, osq3⟩, hw''⟩ := hw'
                subst hw''
                have lk := below_regrown wr dq3 osq3
                have Q7 := Lib.hid (Row2.below HQ.out lk); have T7 := Lib.hid (HT.out.below lk); have TW7 := Lib.hid (HTW.out.trans (Turned.below lk) (by rw [hbi]; exact HL0.out))
                have hg2 : g2 < wr.heap.size := (HT.out.blocks g2 (by simp [blk])).2
                have a0' := (lk.cell (p := ⟨g2, q * 4 + 0, none⟩) hg2).trans (HCE.out 0 _ rfl); have a1 := (lk.cell (p := ⟨g2, q * 4 + 1, none⟩) hg2).trans (HCE.out 1 _ rfl); have a2 := (lk.cell (p := ⟨g2, q * 4 + 2, none⟩) hg2).trans (HCE.out 2 _ rfl); have a3 := (lk.cell (p := ⟨g2, q * 4 + 3, none⟩) hg2).trans (HCE.out 3 _ rfl)
                rw [Nat.add_zero] at a0'
                clear x6 x1 x2 z0 z1 lk HQ HT HTW WL hg2 HCE
                generalize grow (redrawn wr dq3) osq3 = w7 at *
                obtain ⟨_, _, _, _, _, _, c6⟩ := RowR.all T7.out.row
                rw [HN2.out, HM1.out] at c6
                have hhv : heavy acc A = false ∨ heavy acc A = true := by cases heavy acc A <;> simp
                rcases hhv with hhv | hhv
                · have hwg : wg acc A = acc := by unfold wg; rw [hhv]; rfl
                  have HE := Lib.hid (show foldA s2.own (s2.L.take (q + 1)) = acc by rw [HTK.out, hwg])
                  have hai : A.is = false ∨ (A.is = true ∧ acc.is = true ∧ low acc.b A.b = false) := by
                    unfold heavy at hhv
                    cases h1 : A.is
                    · exact .inl rfl
                    · rw [h1] at hhv
                      cases h2 : acc.is
                      · rw [h2] at hhv; simp at hhv
                      · rw [h2] at hhv
                        exact .inr ⟨rfl, rfl, by simpa using hhv⟩
                  clear hhv hwg HTK
                  rcases hai with hai | ⟨hai, hci, hlw⟩
                  · rw [hai] at a0'
                    go_wp2_with fail
                    go_roundw
                    case rel => exact ⟨q + 1, by go_num, by omega, by rw [HE.out], by rw [HE.out], by rw [HE.out]; exact Q7.out, T7.out, TW7.out⟩
                    case measure => simp [intOf]; omega
                  · rw [hai] at a0'
                    go_wp2_with fail
                    go_roundw
                    case rel => exact ⟨q + 1, by go_num, by omega, by rw [HE.out], by (rw [HE.out]; try simp [hci]), by rw [HE.out]; exact Q7.out, T7.out, TW7.out⟩
                    case measure => simp [intOf]; omega
                · have hwg : wg acc A = A := by unfold wg; rw [hhv]; rfl
                  have HE := Lib.hid (show foldA s2.own (s2.L.take (q + 1)) = A by rw [HTK.out, hwg])
                  have hai : A.is = true ∧ (acc.is = false ∨ (acc.is = true ∧ low acc.b A.b = true)) := by
                    unfold heavy at hhv
                    cases h1 : A.is
                    · rw [h1] at hhv; cases hhv
                    · rw [h1] at hhv
                      refine ⟨rfl, ?_⟩
                      cases h2 : acc.is
                      · exact .inl rfl
                      · rw [h2] at hhv
                        exact .inr ⟨rfl, by simpa using hhv⟩
                  clear hhv hwg HTK
                  obtain ⟨hai, hor⟩ := hai
                  have HAI := Lib.hid hai
                  rw [hai] at a0'
                  clear hai
                  obtain ⟨_, _, g0, g1⟩ := Row2.all Q7.out
                  obtain ⟨y0, y1, _, _⟩ := Row2.all Q7.out
                  have HNQ := Lib.hid (show bq ∉ hb :: (blk (some (⟨gg, 0, none⟩ : Addr)) ++ blk (some (⟨g2, 0, none⟩ : Addr))) from fun hm => by have := HBQ.out.2 bq hm; omega)
                  rcases hor with hci | ⟨hci, hlw⟩
                  · skip
                    go_upto_region 22 with (fail)
                    have kk := lay2_keep w7 bq A.b
                    have Q8 := Lib.hid (show Row2 (lay2 w7 bq A.b) bq A.b from heap_setCell_same _ bq 1 _ _ _ (heap_setCell_same w7 bq 0 _ _ _ Q7.out))
                    have T8 := Lib.hid (T7.out.keep kk (fun q hq => by simp; rintro rfl; exact HNQ.out hq))
                    have TW8 := Lib.hid (show Turned (hb :: (blk fo ++ blk lo)) (hb :: (blk (some (⟨gg, 0, none⟩ : Addr)) ++ blk (some (⟨g2, 0, none⟩ : Addr)))) w (lay2 w7 bq A.b) from ⟨TW7.out.keep.cut kk (by intro x hx; simp at hx; subst hx; right; exact HW5.out), TW7.out.new⟩)
                    simp only [lay2] at Q8 T8 TW8
                    clear kk y0 y1 g0 g1 a0' a1 a2 a3 c6 Q7 T7 TW7
                    generalize (w7.setCell ⟨bq, 0, none⟩ (.int .u32 A.b.round)).setCell ⟨bq, 1, none⟩ (.int .u8 A.b.node) = w8 at *
                    go_wp2_with fail
                    go_roundw
                    case rel => exact ⟨q + 1, by go_num, by omega, by rw [HE.out], by rw [HE.out, HAI.out], by rw [HE.out]; exact Q8.out, T8.out, TW8.out⟩
                    case measure => simp [intOf]; omega
                  · skip
                    go_upto_region 22 with (fail)
                    have kk := lay2_keep w7 bq A.b
                    have Q8 := Lib.hid (show Row2 (lay2 w7 bq A.b) bq A.b from heap_setCell_same _ bq 1 _ _ _ (heap_setCell_same w7 bq 0 _ _ _ Q7.out))
                    have T8 := Lib.hid (T7.out.keep kk (fun q hq => by simp; rintro rfl; exact HNQ.out hq))
                    have TW8 := Lib.hid (show Turned (hb :: (blk fo ++ blk lo)) (hb :: (blk (some (⟨gg, 0, none⟩ : Addr)) ++ blk (some (⟨g2, 0, none⟩ : Addr)))) w (lay2 w7 bq A.b) from ⟨TW7.out.keep.cut kk (by intro x hx; simp at hx; subst hx; right; exact HW5.out), TW7.out.new⟩)
                    simp only [lay2] at Q8 T8 TW8
                    clear kk y0 y1 g0 g1 a0' a1 a2 a3 c6 Q7 T7 TW7
                    generalize (w7.setCell ⟨bq, 0, none⟩ (.int .u32 A.b.round)).setCell ⟨bq, 1, none⟩ (.int .u8 A.b.node) = w8 at *
                    go_wp2_with fail
                    go_roundw
                    case rel => exact ⟨q + 1, by go_num, by omega, by rw [HE.out], by rw [HE.out, HAI.out], by rw [HE.out]; exact Q8.out, T8.out, TW8.out⟩
                    case measure => simp [intOf]; omega
              · obtain rfl : q = m1 := by omega
                have HTA := Lib.hid (show foldA s2.own (s2.L.take q) = foldA s2.own s2.L by rw [List.take_of_length_le (by rw [HN2.out]; have := HM1.out; omega)])
                rw [HTA.out]
                have HT := Lib.hid hT; have HTW := Lib.hid hTW
                clear hQ hT hTW
                go_wp2_with fail
                go_ret2
                unfold RqEnd
                rw [if_neg HN.out]
                rw [HLL.out, if_neg (by have := HM1.out; omega)]
                refine ⟨?_, some ⟨gg, 0, none⟩, cap1, some ⟨g2, 0, none⟩, cap2, ?_, HTW.out⟩
                · rw [show foldA s.own (s.L ++ [a]) = foldA s2.own s2.L by rw [← HS2.out]]; rfl
                · rw [HS2.out]
                  exact HT.out
/-- what Promise answers and leaves, whatever comes -/
theorem rpromise_any (fr : Int) (hfr : (Lit.int .i64 fr).wf = true) (w : World) (h : Rp w B hb Bs node n s) (hr0 : 0 ≤ s.bal.round) (hB : B ≤ w.heap.size) (hfew : ∀ x : Int, 0 ≤ x → x < (n : Int) → ¬ x ∈ s.F → s.F.length < 9 ∧ s.L.length < 9) :
    Calls Try.prog 15 #[.pointer (some ⟨hb, 0, none⟩), .int .i64 fr, b.ag, a.ag] w fun e w' =>
      e = .returned (.tuple #[.string (rprm n s fr b a).v, .bool (rprm n s fr b a).ok]) ∧ ∃ Bs', Rp w' B hb Bs' node n (rprm n s fr b a).s ∧ Turned Bs Bs' w w' := by
  obtain ⟨fo, fc, lo, lc, rfl, h⟩ := h
  by_cases hno : s.bal.round = 0 ∨ ¬ b = s.bal ∨ fr < 0 ∨ (n : Int) ≤ fr
  · have e : rprm n s fr b a = ⟨s, nov, false⟩ := by unfold rprm; rw [if_pos hno]
    rw [e]
    exact (rpromise_no fr hno w h hr0).mono fun e w' ⟨h2, h3⟩ => ⟨h2, _, ⟨fo, fc, lo, lc, rfl, h.below h3⟩, Turned.below h3⟩
  · have hb2 : b = s.bal := Classical.byContradiction fun hh => hno (.inr (.inl hh))
    have hr : 0 < s.bal.round := by
      have : ¬ s.bal.round = 0 := fun hh => hno (.inl hh)
      omega
    obtain ⟨k, rfl⟩ : ∃ k : Nat, fr = (k : Int) := ⟨fr.toNat, by omega⟩
    have hk : k < n := by omega
    have e : rprm n s (k : Int) b a = if (k : Int) ∈ s.F then ⟨s, nov, false⟩ else if 2 * (s.L.length + 1) ≤ n ∨ n < 2 * s.L.length then ⟨⟨s.bal, s.own, s.F ++ [(k : Int)], s.L ++ [a]⟩, nov, false⟩
      else ⟨⟨s.bal, s.own, s.F ++ [(k : Int)], s.L ++ [a]⟩, (foldA s.own (s.L ++ [a])).v, true⟩ := by unfold rprm; rw [if_neg hno]
    rw [e]
    by_cases hm : (k : Int) ∈ s.F
    · refine (rpromise_yes k hk hb2 hr (fun h => absurd hm h) w h hB).mono fun e w' hq => ?_
      unfold RqEnd at hq
      rw [if_pos hm] at hq ⊢
      exact ⟨hq.1, _, ⟨fo, fc, lo, lc, rfl, h.below hq.2⟩, Turned.below hq.2⟩
    · refine (rpromise_yes k hk hb2 hr (fun hm => hfew (k : Int) (by omega) (by omega) hm) w h hB).mono fun e w' hq => ?_
      unfold RqEnd at hq
      rw [if_neg hm] at hq ⊢
      obtain ⟨h1, fo', fc', lo', lc', h2, h3⟩ := hq
      by_cases hc : 2 * (s.L.length + 1) ≤ n ∨ n < 2 * s.L.length
      · rw [if_pos hc] at h1 ⊢
        exact ⟨h1, _, ⟨fo', fc', lo', lc', rfl, h2⟩, h3⟩
      · rw [if_neg hc] at h1 ⊢
        exact ⟨h1, _, ⟨fo', fc', lo', lc', rfl, h2⟩, h3⟩
end
end Go.Proofs.Ytgfalpiifgoonaa
