/- The document's New. -/
import Derived.Test.YtikeiocgnjdhbaaOk
namespace Go.Proofs.Ytikeiocgnjdhbaa
open Go.RowKit Go.Sort
set_option linter.unusedVariables false
set_option linter.unusedSimpArgs false
set_option maxRecDepth 100000

set_option maxHeartbeats 2000000 in
theorem rnew_no (n : Int) (hn : n < 4 ∨ 12 < n) (w : World) : Calls Try.prog 11 #[.int .i64 n] w fun e w' => e = .returned (.tuple #[.agg ⟨Tb.zero.list⟩, .int .i64 1]) ∧ Below w.heap.size w w' := by
  have hz := zero_run
  have H1 := Lib.hid (TbR.new w Tb.zero)
  have hW : Below w.heap.size w (w.alloc (.cells ⟨Tb.zero.list⟩ 29)) := below_alloc (Below.refl _ _) _
  go_enter Try.func11, Try.ntmps11
  go_upto_region 1 with (fail)
  generalize w.alloc (.cells ⟨Tb.zero.list⟩ 29) = W at *
  have HV := Lib.hid ((H1.out.setRow Tb.zero).var Tb.zero_sz)
  have HB := Lib.hid (below_setRow hW w.heap.size ⟨Tb.zero.list⟩ (Nat.le_refl _))
  rcases hn with hn | hn <;>
  · go_wp2_with (first
      | (refine wpList_value rfl _ (exec_build 29 rfl (build_tb0 _)) ?_)
      | (refine store_tb rfl rfl rfl rfl H1.out Tb.zero_sz Tb.zero_sz ?_))
    exact bodyPost_ret (v := .tuple #[.agg ⟨Tb.zero.list⟩, .int .i64 1]) (results_cell_tmp Try.results11 rfl rfl HV.out) rfl ⟨rfl, HB.out⟩

set_option maxHeartbeats 4000000 in
theorem rnew_yes (n : Nat) (h0 : 4 ≤ n) (h1 : n ≤ 12) (w : World) : Calls Try.prog 11 #[.int .i64 (n : Int)] w fun e w' => e = .returned (.tuple #[.agg ⟨(newT n).list⟩, .int .i64 0]) ∧ Below w.heap.size w w' := by
  have hz := zero_run
  have H1 := Lib.hid (TbR.new w Tb.zero)
  have hW : Below w.heap.size w (w.alloc (.cells ⟨Tb.zero.list⟩ 29)) := below_alloc (Below.refl _ _) _
  have hA : w.heap.size < (w.alloc (.cells ⟨Tb.zero.list⟩ 29)).heap.size := by simp
  go_enter Try.func11, Try.ntmps11
  go_upto_region 1 with (fail)
  generalize w.alloc (.cells ⟨Tb.zero.list⟩ 29) = W at *
  have H2 := Lib.hid (TbR.new W Tb.zero)
  have s1 := newAt_sz n 0 0
  go_upto_region 4 with (first
      | (refine wpList_value rfl _ (exec_buildp 29 #[(0, .const (.int .u32 1))] #[(0, .int .u32 1)] rfl (by simp [Act.eval]) (build_tb1 n _)) ?_)
      | (refine store_tb (U := newAt n 0 0) rfl rfl rfl rfl H2.out Tb.zero_sz (newAt_sz n 0 0) ?_))
  have H3 := Lib.hid (H2.out.setRow (newAt n 0 0))
  have b3 := below_setRow (below_alloc (Below.refl W.heap.size W) (.cells ⟨Tb.zero.list⟩ 29)) W.heap.size ⟨(newAt n 0 0).list⟩ (Nat.le_refl _)
  have B3 := Lib.hid b3
  clear H2 s1 b3
  generalize (W.alloc (.cells ⟨Tb.zero.list⟩ 29)).setRow W.heap.size ⟨(newAt n 0 0).list⟩ = W2 at *
  have HE := Lib.hid (fun k => (show (newAt n k 64).setMem k true = newAt n (k + 1) 64 by simp only [newAt, Tb.setMem]; rw [sq_set]))
  have HF := Lib.hid (fun k => (show ((newAt n 0 k).setOwn k (nowner n k)).setInc k 1 = newAt n 0 (k + 1) by simp only [newAt, Tb.setOwn, Tb.setInc]; rw [sq_set, sq_set k 64 (fun _ => (1 : Int)) 0]))
  go_wp2_with fail
  go_loopw [5] (fun i wr => ∃ k : Nat, k ≤ 64 ∧ i = .int .i64 (k : Int) ∧ TbR wr W.heap.size (newAt n 0 k) ∧ Below W.heap.size W wr) (fun i _ => 64 - (intOf i).toNat)
  case atStart => exact ⟨0, Nat.zero_le _, rfl, H3.out, B3.out⟩
  case round =>
    obtain ⟨k, hk, rfl, hr, hb⟩ := hrel
    clear H3 B3
    have sz := newAt_sz n 0 k
    by_cases hlt : k < 64
    · have hm : k * n ≤ 63 * 12 := Nat.mul_le_mul (by omega) h1
      have hw1 : IntKind.i64.wrap ((k : Int) * (n : Int)) = (k : Int) * (n : Int) := by
        rw [← Int.natCast_mul, IntWalk.i64_in _ (by omega)]
      have hd1 : ((k : Int) * (n : Int)) / 64 = nowner n k := by rw [← Int.natCast_mul]; unfold nowner; omega
      have hd2 : ((k : Int) * (n : Int)).tdiv 64 = nowner n k := by rw [Int.tdiv_eq_ediv_of_nonneg (by rw [← Int.natCast_mul]; omega)]; exact hd1
      have c1 := hr.own sz hlt
      have f1 := hr.fr (1 + k)
      have HR1 := hr.setOwn sz hlt (nowner n k)
      have sz2 := sz.setOwn k (nowner n k)
      have c2 := hr.inc sz hlt
      have f2 := hr.fr (65 + k)
      have q0 : 0 ≤ nowner n k := by unfold nowner; omega
      have q1 : nowner n k < 64 := by unfold nowner; omega
      have h9 := HR1.setInc sz2 hlt 1
      rw [HF.out k] at h9
      have HR := Lib.hid h9
      have HB := Lib.hid hb
      clear hr hb HR1 sz sz2 hm h9
      generalize nowner n k = q at *
      go_wp2_with fail
      go_roundw
      case rel => exact ⟨k + 1, by omega, by go_num, HR.out, (HB.out.setCell (by simp) _).setCell (by simp) _⟩
      case measure => simp [intOf]; omega
    · obtain rfl : 64 = k := by omega
      have HR := Lib.hid hr
      have HB := Lib.hid hb
      clear hr hb HF hk hlt sz
      generalize hwr : wr = V at *
      clear hwr
      go_wp2_with fail
      go_loopw [6] (fun i wr => ∃ k : Nat, k ≤ n ∧ i = .int .i64 (k : Int) ∧ TbR wr W.heap.size (newAt n k 64) ∧ Below W.heap.size W wr) (fun i _ => n - (intOf i).toNat)
      case atStart => exact ⟨0, Nat.zero_le _, rfl, HR.out, HB.out⟩
      case round =>
        obtain ⟨k, hk, rfl, hr, hb⟩ := hrel
        clear HR HB
        by_cases hlt : k < n
        · have hlt12 : k < 12 := by omega
          have c1 := hr.mem (newAt_sz n k 64) hlt12
          have f1 := hr.fr (129 + k)
          have h9 := hr.setMem (newAt_sz n k 64) hlt12 true
          rw [HE.out] at h9
          have HR := Lib.hid h9
          have HB := Lib.hid hb
          clear hr hb h9
          go_wp2_with fail
          go_roundw
          case rel => exact ⟨k + 1, by omega, by go_num, HR.out, HB.out.setCell (by simp) _⟩
          case measure => simp [intOf]; omega
        · obtain rfl : n = k := by omega
          have HR := Lib.hid hr
          have h1' := H1.out.below hb hA
          have HV := Lib.hid ((h1'.setRow (newT n)).var (newAt_sz n n 64))
          have H1' := Lib.hid h1'
          have HB := Lib.hid (below_setRow (hW.trans (hb.mono hW.size)) w.heap.size ⟨(newT n).list⟩ (Nat.le_refl _))
          clear hr hb h1' H1 HE
          go_wp2_with (first
            | (refine load_tb (T := newT n) rfl rfl rfl HR.out (newAt_sz n n 64) ?_)
            | (refine store_tb (U := newT n) rfl rfl rfl rfl H1'.out Tb.zero_sz (newAt_sz n n 64) ?_))
          exact bodyPost_ret (v := .tuple #[.agg ⟨(newT n).list⟩, .int .i64 0]) (results_cell_tmp Try.results11 rfl rfl HV.out) rfl ⟨rfl, HB.out⟩
end Go.Proofs.Ytikeiocgnjdhbaa
