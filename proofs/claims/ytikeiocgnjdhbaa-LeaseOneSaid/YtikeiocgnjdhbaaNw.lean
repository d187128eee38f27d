/- lease.New. -/
import Derived.Test.YtikeiocgnjdhbaaLs
import Derived.Deep.Upon
import Derived.Deep.CutRange
import Derived.Deep.QuietTactic
namespace Go.Proofs.Ytikeiocgnjdhbaa
open Go.RowKit Go.Sort
set_option linter.unusedVariables false
set_option linter.unusedSimpArgs false
set_option maxRecDepth 100000

theorem results_cell_tmp {P : Program} {fn : Func} {t s : Tmp} {u : TypeId} {tmps : Array Value} {w : World} {ad : Addr} {v x : Value} (h : fn.results = #[.cell t u, .tmp s]) (ht : tmps.getD t undef = .pointer (some ad)) (hs : tmps.getD s undef = x)
    (hl : (loadVar u ad).run P w = .ok v w) : (results fn tmps).run P w = .ok (.tuple #[v, x]) w := by
  have ht' : tmps[t]?.getD undef = .pointer (some ad) := by simpa using ht
  have hs' : tmps[s]?.getD undef = x := by simpa using hs
  simp [results, h, ht', hs', hl, asAddr]
variable {α : Type}
def sq (k n : Nat) (F : Nat → α) (z : α) : List α := (List.range n).map fun p => if p < k then F p else z
theorem sq_length (k n : Nat) (F : Nat → α) (z : α) : (sq k n F z).length = n := by simp [sq]
theorem sq_zero (n : Nat) (F : Nat → α) (z : α) : sq 0 n F z = List.replicate n z := by simp [sq, List.map_const']
theorem sq_set (k n : Nat) (F : Nat → α) (z : α) : (sq k n F z).set k (F k) = sq (k + 1) n F z := by
  apply List.ext_getElem (by simp [sq])
  intro i h1 h2
  rw [List.getElem_set]
  simp only [sq, List.getElem_map, List.getElem_range]
  by_cases h : k = i
  · subst h; simp
  · rw [if_neg h]
    by_cases h3 : i < k
    · rw [if_pos h3, if_pos (by omega)]
    · rw [if_neg h3, if_neg (by omega)]
theorem sq_get (k n p : Nat) (F : Nat → α) (z y : α) (hp : p < n) (hk : p < k) : (sq k n F z).getD p y = F p := by simp [sq, List.getD, hp, hk]
theorem sq_out (k n p : Nat) (F : Nat → α) (z y : α) (hp : p < n) (hk : ¬ p < k) : (sq k n F z).getD p y = z := by simp [sq, List.getD, hp, hk]
def nowner (n p : Nat) : Int := ((p * n / 64 : Nat) : Int)
/-- the table of New while it is being made -/
def newAt (n a b : Nat) : Tb := ⟨1, sq b 64 (nowner n) 0, sq b 64 (fun _ => 1) 0, sq a 12 (fun _ => true) false, List.replicate 12 0⟩
theorem newAt_sz (n a b : Nat) : (newAt n a b).Sz := ⟨sq_length _ _ _ _, sq_length _ _ _ _, sq_length _ _ _ _, by simp [newAt]⟩
def newT (n : Nat) : Tb := newAt n n 64

theorem tb_info : (Try.prog.info? 29).map (·.size) = some 153 := by kernel_rfl
section
variable {ops : Array Oper} {rest : List Oper} {o : Oper} {a : Act} {w : World} {Q : Exit → Act → World → Prop} {x y : Operand} {g : Nat} {T U : Tb}
theorem load_tb (hgd : o.guard = none) (ho : o.op = .load 29 x) (hx : a.eval x = .pointer (some ⟨g, 0, none⟩)) (hg : TbR w g T) (s : T.Sz) (h : wpList Try.prog ops Q rest (a.put o.dst (.agg ⟨T.list⟩)) w) : wpList Try.prog ops Q (o :: rest) a w :=
  wpList_value hgd _ (exec_load 29 x ho hx (hg.load s)) h
theorem store_tb (hgd : o.guard = none) (ho : o.op = .store 29 x y) (hx : a.eval x = .pointer (some ⟨g, 0, none⟩)) (hy : a.eval y = .agg ⟨U.list⟩) (hg : TbR w g T) (s : T.Sz) (s' : U.Sz) (h : wpList Try.prog ops Q rest (a.put o.dst undef) (w.setRow g ⟨U.list⟩)) : wpList Try.prog ops Q (o :: rest) a w :=
  wpList_store_row hgd 29 x y ho g _ hx hy 29 _ hg (by rw [List.size_toArray, s'.len, tb_info]) (by simp [s.len, s'.len]) (tb_one U) h
theorem alloc_tb (hgd : o.guard = none) (ho : o.op = .alloc 29) (hz : (zeroValue 29).run Try.prog w = .ok (.agg ⟨Tb.zero.list⟩) w) (h : wpList Try.prog ops Q rest (a.put o.dst (.pointer (some ⟨w.heap.size, 0, none⟩))) (w.alloc (.cells ⟨Tb.zero.list⟩ 29))) : wpList Try.prog ops Q (o :: rest) a w :=
  wpList_plain hgd fun K hK => by
    unfold Oper.wp execOp
    simp only [ho, Sem.run_bind, hz, Result.andThen_ok]
    exact hK _ _ h
end
theorem zero_run (w : World) : (zeroValue 29).run Try.prog w = .ok (.agg ⟨Tb.zero.list⟩) w := by kernel_rfl
theorem build_tb0 (w : World) : (Instr.build 29 #[]).run Try.prog w = .ok (.agg ⟨Tb.zero.list⟩) w := run_build w _ _ _ (by kernel_rfl)
theorem newAt_zero (n : Nat) : newAt n 0 0 = newAt 0 0 0 := by simp only [newAt, sq_zero]
theorem build_tb1 (n : Nat) (w : World) : (Instr.build 29 #[(0, .int .u32 1)]).run Try.prog w = .ok (.agg ⟨(newAt n 0 0).list⟩) w := by
  rw [newAt_zero]
  exact run_build w _ _ _ (by kernel_rfl)
theorem below_setRow {B : Nat} {w0 w : World} (h : Below B w0 w) (b : Nat) (cs : Array Value) (hb : B ≤ b) : Below B w0 (w.setRow b cs) := h.trans ⟨rfl, rfl, rfl, by simp, fun k hk => setRow_other w b k _ (by omega)⟩

theorem exec_buildp {P : Program} {o : Oper} {a : Act} {w : World} {v : Value} (t : TypeId) (ps : Array (Nat × Operand)) (vs : Array (Nat × Value)) (ho : o.op = .build t ps) (hv : ps.map (fun p => (p.1, a.eval p.2)) = vs)
    (h : (Instr.build t vs).run P w = .ok v w) : (execOp a.eval o).run P w = .ok (.value v) w := by
  subst hv
  unfold execOp
  simp only [ho, Sem.run_bind]
  rw [h]
  rfl

set_option maxHeartbeats 2000000 in
theorem new_no (n : Int) (hn : n < 4 ∨ 12 < n) (w : World) : Calls Try.prog 10 #[.int .i64 n] w fun e w' => e = .returned (.tuple #[.agg ⟨Tb.zero.list⟩, .int .i64 1]) ∧ Below w.heap.size w w' := by
  have hz := zero_run
  have H1 := Lib.hid (TbR.new w Tb.zero)
  have hW : Below w.heap.size w (w.alloc (.cells ⟨Tb.zero.list⟩ 29)) := below_alloc (Below.refl _ _) _
  go_enter Try.func10, Try.ntmps10
  go_upto_region 1 with (fail)
  generalize w.alloc (.cells ⟨Tb.zero.list⟩ 29) = W at *
  have HV := Lib.hid ((H1.out.setRow Tb.zero).var Tb.zero_sz)
  have HB := Lib.hid (below_setRow hW w.heap.size ⟨Tb.zero.list⟩ (Nat.le_refl _))
  rcases hn with hn | hn <;>
  · go_wp2_with (first
      | (refine wpList_value rfl _ (exec_build 29 rfl (build_tb0 _)) ?_)
      | (refine store_tb rfl rfl rfl rfl H1.out Tb.zero_sz Tb.zero_sz ?_))
    exact bodyPost_ret (v := .tuple #[.agg ⟨Tb.zero.list⟩, .int .i64 1]) (results_cell_tmp Try.results10 rfl rfl HV.out) rfl ⟨rfl, HB.out⟩

set_option maxHeartbeats 2000000 in
theorem new_yes (n : Nat) (h0 : 4 ≤ n) (h1 : n ≤ 12) (w : World) : Calls Try.prog 10 #[.int .i64 (n : Int)] w fun e w' => e = .returned (.tuple #[.agg ⟨(newT n).list⟩, .int .i64 0]) ∧ Below w.heap.size w w' := by
  have hz := zero_run
  have H1 := Lib.hid (TbR.new w Tb.zero)
  have hW : Below w.heap.size w (w.alloc (.cells ⟨Tb.zero.list⟩ 29)) := below_alloc (Below.refl _ _) _
  have hA : w.heap.size < (w.alloc (.cells ⟨Tb.zero.list⟩ 29)).heap.size := by simp
  go_enter Try.func10, Try.ntmps10
  go_upto_region 1 with (fail)
  generalize w.alloc (.cells ⟨Tb.zero.list⟩ 29) = W at *
  have H2 := Lib.hid (TbR.new W Tb.zero)
  have s1 := newAt_sz n 0 0
  go_upto_region 4 with (first
      | (refine wpList_value rfl _ (exec_buildp 29 #[(0, .const (.int .u32 1))] #[(0, .int .u32 1)] rfl (by simp [Act.eval]) (build_tb1 n _)) ?_)
      | (refine store_tb (U := newAt n 0 0) rfl rfl rfl rfl H2.out Tb.zero_sz (newAt_sz n 0 0) ?_))
  have H3 := Lib.hid (H2.out.setRow (newAt n 0 0))
  have b3 := below_setRow (below_alloc (Below.refl W.heap.size W) (.cells ⟨Tb.zero.list⟩ 29)) W.heap.size ⟨(newAt n 0 0).list⟩ (Nat.le_refl _)
  have B3 := Lib.hid b3
  clear H2 s1 b3
  generalize (W.alloc (.cells ⟨Tb.zero.list⟩ 29)).setRow W.heap.size ⟨(newAt n 0 0).list⟩ = W2 at *
  have HE := Lib.hid (fun k => (show (newAt n k 0).setMem k true = newAt n (k + 1) 0 by simp only [newAt, Tb.setMem]; rw [sq_set]))
  have HF := Lib.hid (fun k => (show ((newAt n n k).setOwn k (nowner n k)).setInc k 1 = newAt n n (k + 1) by simp only [newAt, Tb.setOwn, Tb.setInc]; rw [sq_set, sq_set k 64 (fun _ => (1 : Int)) 0]))
  go_wp2_with fail
  go_loopw [5, 16] (fun _ i wr => ∃ k : Nat, k ≤ n ∧ i = .int .i64 (k : Int) ∧ TbR wr W.heap.size (newAt n k 0) ∧ Below W.heap.size W wr) (fun _ i _ => n - (intOf i).toNat)
  case atStart => exact ⟨0, Nat.zero_le _, rfl, H3.out, B3.out⟩
  case round =>
    obtain ⟨k, hk, rfl, hr, hb⟩ := hrel
    clear H3 B3
    by_cases hlt : k < n
    · have hlt12 : k < 12 := by omega
      have c1 := hr.mem (newAt_sz n k 0) hlt12
      have f1 := hr.fr (129 + k)
      have HR := Lib.hid (hr.setMem (newAt_sz n k 0) hlt12 true)
      have HB := Lib.hid hb
      clear hr hb
      go_wp2_with fail
      go_roundw
      case rel => exact ⟨k + 1, by omega, by go_num, by have := HR.out; rw [HE.out] at this; exact this, HB.out.setCell (by simp) _⟩
      case measure => simp [intOf]; omega
    · obtain rfl : n = k := by omega
      have HR := Lib.hid hr
      have HB := Lib.hid hb
      clear hr hb HE
      clear hk hlt
      generalize hwr : wr = V at *
      clear hwr
      go_upto_region 10 with (fail)
      go_loopw [6, 23] (fun _ i wr => ∃ k : Nat, k ≤ 64 ∧ i = .int .i64 (k : Int) ∧ TbR wr W.heap.size (newAt n n k) ∧ Below W.heap.size W wr) (fun _ i _ => 64 - (intOf i).toNat)
      case atStart => exact ⟨0, Nat.zero_le _, rfl, HR.out, HB.out⟩
      case round =>
        obtain ⟨k, hk, rfl, hr, hb⟩ := hrel
        clear HR HB
        have sz := newAt_sz n n k
        by_cases hlt : k < 64
        · have hm : k * n ≤ 63 * 12 := Nat.mul_le_mul (by omega) h1
          have hw1 : IntKind.i64.wrap ((k : Int) * (n : Int)) = (k : Int) * (n : Int) := by
            rw [← Int.natCast_mul, IntWalk.i64_in _ (by omega)]
          have hd1 : ((k : Int) * (n : Int)) / 64 = nowner n k := by rw [← Int.natCast_mul]; unfold nowner; omega
          have hd2 : ((k : Int) * (n : Int)).tdiv 64 = nowner n k := by rw [Int.tdiv_eq_ediv_of_nonneg (by rw [← Int.natCast_mul]; omega)]; exact hd1
          have c1 := hr.own sz hlt
          have f1 := hr.fr (1 + k)
          have HR1 := hr.setOwn sz hlt (nowner n k)
          have sz2 := sz.setOwn k (nowner n k)
          have c0 : wr.cell? ⟨W.heap.size, 0, none⟩ = some (.int .u32 1) := hr.ver
          have c2 := hr.inc sz hlt
          have f2 := hr.fr (65 + k)
          have q0 : 0 ≤ nowner n k := by unfold nowner; omega
          have q1 : nowner n k < 64 := by unfold nowner; omega
          have h9 := HR1.setInc sz2 hlt 1
          rw [HF.out k] at h9
          have HR := Lib.hid h9
          have HB := Lib.hid hb
          clear hr hb HR1 sz sz2 hm h9
          generalize nowner n k = q at *
          go_wp2_with fail
          go_roundw
          case rel => exact ⟨k + 1, by omega, by go_num, HR.out, (HB.out.setCell (by simp) _).setCell (by simp) _⟩
          case measure => simp [intOf]; omega
        · obtain rfl : 64 = k := by omega
          have HR := Lib.hid hr
          have h1' := H1.out.below hb hA
          have HV := Lib.hid ((h1'.setRow (newT n)).var (newAt_sz n n 64))
          have H1' := Lib.hid h1'
          have HB := Lib.hid (below_setRow (hW.trans (hb.mono hW.size)) w.heap.size ⟨(newT n).list⟩ (Nat.le_refl _))
          clear hr hb h1' H1 HF
          go_wp2_with (first
            | (refine load_tb (T := newT n) rfl rfl rfl HR.out (newAt_sz n n 64) ?_)
            | (refine store_tb (U := newT n) rfl rfl rfl rfl H1'.out Tb.zero_sz (newAt_sz n n 64) ?_))
          exact bodyPost_ret (v := .tuple #[.agg ⟨(newT n).list⟩, .int .i64 0]) (results_cell_tmp Try.results10 rfl rfl HV.out) rfl ⟨rfl, HB.out⟩
end Go.Proofs.Ytikeiocgnjdhbaa
