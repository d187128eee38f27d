/- The proposer: its state; New, Begin, Ballot. -/
import Derived.Test.YtgfalpiifgoonaaKm
import Derived.Test.YtgfalpiifgoonaaAc
namespace Go.Proofs.Ytgfalpiifgoonaa
open Go.RowKit Go.Sort
set_option linter.unusedVariables false
set_option linter.unusedSectionVars false
set_option maxRecDepth 100000

theorem wpList_delq {w w' : World} {ops : Array Oper} {rest : List Oper} {o : Oper} {a : Act} {Q : Exit → Act → World → Prop} (hgd : o.guard = none) (m k : Operand) (mt kt : TypeId)
    (ho : o.op = .call { callee := .builtin .delete, args := #[m, k], argTypes := #[mt, kt] }) {mv kv : Value} (hm : a.eval m = mv) (hk : a.eval k = kv)
    (hr : (Builtin.delete_ #[mt, kt] o.type #[mv, kv]).run Try.prog w = .ok (.tuple #[]) w') (h : wpList Try.prog ops Q rest (a.put o.dst (.tuple #[])) w') : wpList Try.prog ops Q (o :: rest) a w := by
  refine wpList_plain hgd fun K hK => ?_
  unfold Oper.wp execOp
  simp only [ho, resolve, invoke, builtin, Sem.run_bind, Sem.run_pure, Result.andThen_ok, List.map_toArray, List.map_cons, List.map_nil, hm, hk, hr]
  exact hK _ _ h
theorem wpList_clr {w w' : World} {ops : Array Oper} {rest : List Oper} {o : Oper} {a : Act} {Q : Exit → Act → World → Prop} (hgd : o.guard = none) (m : Operand) (mt : TypeId)
    (ho : o.op = .call { callee := .builtin .clear, args := #[m], argTypes := #[mt] }) {mv : Value} (hm : a.eval m = mv)
    (hr : (Builtin.clear_ #[mt] o.type #[mv]).run Try.prog w = .ok (.tuple #[]) w') (h : wpList Try.prog ops Q rest (a.put o.dst (.tuple #[])) w') : wpList Try.prog ops Q (o :: rest) a w := by
  refine wpList_plain hgd fun K hK => ?_
  unfold Oper.wp execOp
  simp only [ho, resolve, invoke, builtin, Sem.run_bind, Sem.run_pure, Result.andThen_ok, List.map_toArray, List.map_cons, List.map_nil, hm, hr]
  exact hK _ _ h

/-! ### who is awaited -/
/-- how many of n -/
def cnt (n : Nat) (S : Nat → Bool) : Nat := ((List.range n).filter S).length
theorem cnt_succ (n : Nat) (S : Nat → Bool) : cnt (n + 1) S = cnt n S + (if S n then 1 else 0) := by
  unfold cnt
  rw [List.range_succ, List.filter_append]
  by_cases h : S n <;> simp [h]
theorem cnt_le (n : Nat) (S : Nat → Bool) : cnt n S ≤ n := by
  unfold cnt
  have := List.length_filter_le S (List.range n)
  simpa using this
theorem cnt_none (n : Nat) : cnt n (fun _ => false) = 0 := by simp [cnt]
theorem cnt_all (n : Nat) : cnt n (fun _ => true) = n := by
  unfold cnt
  rw [List.filter_eq_self.2 (by simp)]
  simp
theorem cnt_congr {n : Nat} {S T : Nat → Bool} (h : ∀ k, k < n → S k = T k) : cnt n S = cnt n T := by
  unfold cnt
  congr 1
  exact List.filter_congr fun k hk => h k (by simpa using hk)
def wout (S : Nat → Bool) (a : Nat) : Nat → Bool := fun k => if k = a then false else S k
def wth (S : Nat → Bool) (a : Nat) : Nat → Bool := fun k => if k = a then true else S k
theorem cnt_wout : ∀ (n : Nat) (S : Nat → Bool) (a : Nat), a < n → S a = true → cnt n S = cnt n (wout S a) + 1
  | 0, S, a, h, _ => by omega
  | n + 1, S, a, h, hs => by
    rw [cnt_succ, cnt_succ]
    by_cases e : a = n
    · subst e
      rw [cnt_congr (T := wout S a) (fun k hk => by simp [wout]; intro e; omega), hs]
      simp [wout]
    · rw [cnt_wout n S a (by omega) hs]
      have : wout S a n = S n := by simp [wout]; intro e2; omega
      rw [this]; omega
theorem cnt_wth (n : Nat) (S : Nat → Bool) (a : Nat) (h : a < n) (hs : S a = false) : cnt n (wth S a) = cnt n S + 1 := by
  rw [cnt_wout n (wth S a) a h (by simp [wth])]
  congr 1
  exact cnt_congr fun k hk => by
    simp only [wout, wth]
    by_cases e : k = a
    · subst e; simp [hs]
    · simp [e]
/-- the promises that are awaited -/
def aw (n : Nat) (bal : Bl) (S : Nat → Bool) : Pk → Option Unit := fun p => if p.b = bal ∧ 0 ≤ p.from_ ∧ p.from_ < n ∧ S p.from_.toNat = true then some () else none

structure PrW (w : World) (B hn gm node n : Nat) (bal : Bl) (S : Nat → Bool) (best : Ac) : Prop where
  map : SetP w gm (cnt n S) (aw n bal S)
  row : w.heap[hn]? = some (.cells #[.int .u8 (node : Int), .int .i64 (n : Int), .int .u32 bal.round, .int .u8 bal.node, .map (some gm), .bool best.is, .int .u32 best.b.round, .int .u8 best.b.node, .string best.v] 86 (0, 0))
  base : B ≤ hn
  gbase : B ≤ gm
  ne : hn ≠ gm
  n1 : 1 ≤ n
  n9 : n ≤ 9
  nd : node ≤ 255
  bok : bal.Ok
  vok : best.v.size ≤ 281474976710656
section
variable {w w' : World} {B hn gm node n : Nat} {bal : Bl} {S : Nat → Bool} {best : Ac}
theorem PrW.hlt (h : PrW w B hn gm node n bal S best) : hn < w.heap.size := (Array.getElem?_eq_some_iff.1 h.row).1
theorem PrW.glt (h : PrW w B hn gm node n bal S best) : gm < w.heap.size := h.map.lt
theorem PrW.keep {U : List Nat} (h : PrW w B hn gm node n bal S best) (k : Keep U w w') (h1 : hn ∉ U) (h2 : gm ∉ U) : PrW w' B hn gm node n bal S best :=
  ⟨h.map.keep k h2, (k.block hn h.hlt h1).trans h.row, h.base, h.gbase, h.ne, h.n1, h.n9, h.nd, h.bok, h.vok⟩
theorem PrW.below (h : PrW w B hn gm node n bal S best) (b : Below w.heap.size w w') : PrW w' B hn gm node n bal S best := h.keep (Keep.of_below b []) (by simp) (by simp)
theorem PrW.down {B' : Nat} (h : PrW w B hn gm node n bal S best) (hb : B' ≤ B) : PrW w B' hn gm node n bal S best := ⟨h.map, h.row, Nat.le_trans hb h.base, Nat.le_trans hb h.gbase, h.ne, h.n1, h.n9, h.nd, h.bok, h.vok⟩
theorem PrW.all (h : PrW w B hn gm node n bal S best) : w.cell? ⟨hn, 0, none⟩ = some (.int .u8 (node : Int)) ∧ w.cell? ⟨hn, 1, none⟩ = some (.int .i64 (n : Int)) ∧ w.cell? ⟨hn, 2, none⟩ = some (.int .u32 bal.round) ∧ w.cell? ⟨hn, 3, none⟩ = some (.int .u8 bal.node) ∧ w.cell? ⟨hn, 4, none⟩ = some (.map (some gm)) ∧
    w.cell? ⟨hn, 5, none⟩ = some (.bool best.is) ∧ w.cell? ⟨hn, 6, none⟩ = some (.int .u32 best.b.round) ∧ w.cell? ⟨hn, 7, none⟩ = some (.int .u8 best.b.node) ∧ w.cell? ⟨hn, 8, none⟩ = some (.string best.v) :=
  ⟨cell_of_row w hn 0 _ _ (0, 0) h.row, cell_of_row w hn 1 _ _ (0, 0) h.row, cell_of_row w hn 2 _ _ (0, 0) h.row, cell_of_row w hn 3 _ _ (0, 0) h.row, cell_of_row w hn 4 _ _ (0, 0) h.row, cell_of_row w hn 5 _ _ (0, 0) h.row, cell_of_row w hn 6 _ _ (0, 0) h.row, cell_of_row w hn 7 _ _ (0, 0) h.row, cell_of_row w hn 8 _ _ (0, 0) h.row⟩
theorem PrW.fr (h : PrW w B hn gm node n bal S best) (i : Nat) : w.frozen? ⟨hn, i, none⟩ = false := frozen_of_row w hn i _ _ h.row
theorem b0ok : b0.Ok := ⟨by decide, by decide⟩
theorem PrW.new (w : World) (node n : Nat) (h1 : 1 ≤ n) (h2 : n ≤ 9) (h3 : node ≤ 255) :
    PrW ((w.alloc (.map #[] 0)).alloc (.cells #[.int .u8 (node : Int), .int .i64 (n : Int), .int .u32 0, .int .u8 0, .map (some w.heap.size), .bool false, .int .u32 0, .int .u8 0, .string ⟨#[]⟩] 86)) w.heap.size (w.heap.size + 1) w.heap.size node n b0 (fun _ => false) a0 := by
  have hs : (w.alloc (.map #[] 0)).heap.size = w.heap.size + 1 := by simp
  have hn := heap_alloc_new (w.alloc (.map #[] 0)) (.cells #[.int .u8 (node : Int), .int .i64 (n : Int), .int .u32 0, .int .u8 0, .map (some w.heap.size), .bool false, .int .u32 0, .int .u8 0, .string ⟨#[]⟩] 86)
  rw [hs] at hn
  refine ⟨?_, hn, by omega, Nat.le_refl _, by omega, h1, h2, h3, b0ok, by decide⟩
  rw [cnt_none]
  exact ((MapK.made w).keep (Keep.of_below (below_alloc (Below.refl _ _) _) []) (by simp)).ext fun i _ => by simp [aw]
set_option maxHeartbeats 400000 in
theorem maybe_any (n : Int) (w : World) : Calls Try.prog 24 #[.int .i64 n] w fun e w' => e = .returned (.bool (decide (1 ≤ n ∧ n ≤ 9))) ∧ w = w' := by
  by_cases h1 : 1 ≤ n
  · go_enter Try.func24, Try.ntmps24
    go_wp2_with fail
    go_ret
    exact ⟨ret_bool (by simp [h1]), rfl⟩
  · go_enter Try.func24, Try.ntmps24
    go_wp2_with fail
    go_ret
    exact ⟨ret_bool (by simp; omega), rfl⟩
set_option maxHeartbeats 400000 in
theorem majority_any (m n : Nat) (hm : m ≤ 9) (hn : n ≤ 9) (w : World) : Calls Try.prog 27 #[.int .i64 (m : Int), .int .i64 (n : Int)] w fun e w' => e = .returned (.bool (decide (n < 2 * m))) ∧ w = w' := by
  go_enter Try.func27, Try.ntmps27
  go_wp2_with fail
  go_ret
  refine ⟨ret_bool ?_, rfl⟩
  simp only [decide_eq_decide]
  omega
set_option maxHeartbeats 800000 in
theorem pnew_yes (node n : Nat) (h1 : 1 ≤ n) (h2 : n ≤ 9) (h3 : node ≤ 255) (w : World) : Calls Try.prog 8 #[.int .i64 (node : Int), .int .i64 (n : Int)] w fun e w' =>
    ∃ hn gm, e = .returned (.tuple #[.pointer (some ⟨hn, 0, none⟩), .int .i64 0]) ∧ PrW w' w.heap.size hn gm node n b0 (fun _ => false) a0 ∧ Below w.heap.size w w' := by
  have HN := Lib.hid (PrW.new w node n h1 h2 h3)
  have k3 : (node : Int) ≤ 255 := by omega
  have k4 : (0 : Int) ≤ (node : Int) := by omega
  have C := Lib.hid (fun w => by
    have := maybe_any (n : Int) w
    rw [decide_eq_true (by omega : (1 : Int) ≤ (n : Int) ∧ (n : Int) ≤ 9)] at this; exact this)
  clear h1 h2 h3
  have hmm := @run_makeMap Try.prog
  go_enter Try.func8, Try.ntmps8
  go_wp2_with fail
  refine (C.out _).mono ?_; rintro e w1 ⟨rfl, rfl⟩
  go_wp2_with fail
  go_ret2
  exact ⟨_, _, rfl, HN.out, below_alloc (below_alloc (Below.refl _ _) _) _⟩
set_option maxHeartbeats 800000 in
theorem pnew_no (node n : Int) (h : ¬ (0 ≤ node ∧ node ≤ 255 ∧ 1 ≤ n ∧ n ≤ 9)) (w : World) : Calls Try.prog 8 #[.int .i64 node, .int .i64 n] w fun e w' => e = .returned (.tuple #[.pointer none, .int .i64 1]) ∧ w = w' := by
  by_cases h1 : node < 0
  · clear h
    go_enter Try.func8, Try.ntmps8
    go_wp2_with fail
    go_ret2
    exact ⟨rfl, rfl⟩
  · by_cases h2 : 255 < node
    · clear h
      go_enter Try.func8, Try.ntmps8
      go_wp2_with fail
      go_ret2
      exact ⟨rfl, rfl⟩
    · have C := Lib.hid (fun w => by
        have := maybe_any n w
        rw [decide_eq_false (by omega : ¬ (1 ≤ n ∧ n ≤ 9))] at this; exact this)
      clear h
      go_enter Try.func8, Try.ntmps8
      go_wp2_with fail
      refine (C.out _).mono ?_; rintro e w1 ⟨rfl, rfl⟩
      go_wp2_with fail
      go_ret2
      exact ⟨rfl, rfl⟩
end
end Go.Proofs.Ytgfalpiifgoonaa
