/- Two messages that are alike: what the law's own comparison tells of them: lists of entries, items. '==' and '!=' on arrays of integers or bools: a law that the walk lacks. -/
import Derived.Test.YtngcbpgafjnfaaaGreatDoorLoB16
import Derived.Test.YtngcbpgafjnfaaaGreatDoorLoB14
import Derived.Laws.StructEq
import Derived.BigQuiet
import Derived.Deep.MidRow
import Derived.WalkKit
set_option linter.unusedSimpArgs false
set_option linter.unusedVariables false

namespace Go.Proofs.YtngcbpgafjnfaaaGreatDoor
open Go.RowKit Go.Sort
set_option linter.unusedVariables false
set_option linter.unusedSimpArgs false

/-- the blocks that are there -/
abbrev Here (W : World) : Nat → Prop := fun b => b < W.heap.size
theorem here_safe {w w' : World} (h : Below w.heap.size w w') : Safe (Here w) w w' := ⟨h.os, h.tape, h.output, h.size, fun b hb => h.block b hb⟩
theorem Kd.Fine.grow {α : Type} {k : Kd α} (hk : k.Fine) {w w' : World} (h : Below w.heap.size w w') {cs : List Value} {a : α} (hi : k.is w (Here w) cs a) : k.is w' (Here w') cs a :=
  hk.mono _ _ _ _ _ (hk.safe _ _ _ _ _ _ hi (here_safe h) fun _ h => h) fun b hb => Nat.lt_of_lt_of_le hb h.size
theorem SlIs.grow {α : Type} {k : Kd α} (hk : k.Fine) {w w' : World} (h : Below w.heap.size w w') {ao : Option Addr} {n cap : Nat} {l : List α} (hi : SlIs k.sz k.is w (Here w) ao n cap l) : SlIs k.sz k.is w' (Here w') ao n cap l := by
  have h2 := (listK_fine hk 0).grow h ⟨ao, n, cap, rfl, hi⟩
  obtain ⟨ao', n', cap', e, h3⟩ := h2
  simp only [List.cons.injEq, Value.slice.injEq, and_true] at e
  obtain ⟨rfl, rfl, rfl⟩ := e
  exact h3
/-- it is told that they are alike; nothing turns -/
abbrev Yes (w : World) (e : Ending) (w' : World) : Prop := e = .returned (.bool true) ∧ Below w.heap.size w w'

set_option maxHeartbeats 2000000 in
theorem entries_same (ao bo : Option Addr) (n m c d : Nat) (l : List Ent) (w : World) (h1 : SlIs entK.sz entK.is w (Here w) ao n c l) (h2 : SlIs entK.sz entK.is w (Here w) bo m d l) :
    Calls Tryz.prog 47 #[.slice ao n c, .slice bo m d] w (Yes w) := by
  have hn : n ≤ 9223372036854775807 := Nat.le_trans h1.2.1 (Nat.le_trans h1.2.2.1 (by decide))
  have hl : l.length = n := h1.1
  obtain rfl : m = n := h2.1.symm.trans hl
  have H1 := Lib.hid h1; have H2 := Lib.hid h2; have HL := Lib.hid hl
  clear h1 h2 hl
  go_enter Tryz.func47, Tryz.ntmps47
  go_wp2_with fail
  go_loopw [5] (fun i wr => ∃ k : Nat, k ≤ m ∧ i = .int .i64 k ∧ Below w.heap.size w wr) (fun i _ => m - (intOf i).toNat)
  case atStart => exact ⟨0, Nat.zero_le _, rfl, Below.refl _ _⟩
  case round =>
    obtain ⟨k, hk, rfl, hb⟩ := hrel
    by_cases hlt : k < m
    · obtain ⟨x, hx⟩ := SlIs.lt (H1.out) hlt
      obtain ⟨g1, o1, u1, rfl, p1, ⟨c0, c1, rfl, ⟨rfl, _⟩, ⟨rfl, _⟩⟩, q1⟩ := (SlIs.grow entK_fine hb H1.out).2.2.2 k x hx
      obtain ⟨g2, o2, u2, rfl, p2, ⟨c2, c3, rfl, ⟨rfl, _⟩, ⟨rfl, _⟩⟩, q2⟩ := (SlIs.grow entK_fine hb H2.out).2.2.2 k x hx
      have a0 := cell_regrown (q1 0 _ rfl); have a1 := cell_regrown (q1 1 _ rfl); have b0 := cell_regrown (q2 0 _ rfl); have b1 := cell_regrown (q2 1 _ rfl)
      simp only [show entK.sz = 2 from rfl, Nat.add_zero] at a0 a1 b0 b1
      clear p1 p2 q1 q2 hx
      generalize x.key = s at *
      generalize x.val = t at *
      go_wp2_with fail
      refine wp_region_quiet_below (by kernel_rfl) (by kernel_rfl) ?_
      repeat (go_big_quiet_step (fail))
      refine wpQuiet_nil ?_
      intro _ hw'
      obtain ⟨⟨dq, osq⟩, hw''⟩ := hw'
      subst hw''
      have lk := below_regrown wr dq osq
      go_wp2_with fail
      go_roundw
      case rel => exact ⟨k + 1, by omega, by go_num, below_next hb lk⟩
      case measure => simp [intOf]; omega
    · obtain rfl : k = m := by omega
      go_wp2_with fail
      go_ret
      exact ⟨rfl, hb⟩
end Go.Proofs.YtngcbpgafjnfaaaGreatDoor


namespace Go.Proofs.YtngcbpgafjnfaaaGreatDoor
open Go.RowKit
set_option linter.unusedVariables false

section
variable {P : Program}
theorem run_part_cell {e : TypeId} {xs : Array Value} {i : Nat} {v : Value} (hg : ∀ w, (isAgg e).run P w = .ok false w) (h : xs[i]? = some v) (w : World) : (part e xs i).run P w = .ok v w := by
  simp [part, hg, h]

theorem run_arr_loop (e : TypeId) (d : Nat) (xs ys : Array Value) (X Y : Nat → Value) (R : Nat → Bool)
    (hX : ∀ i w, i < xs.size → (part e xs i).run P w = .ok (X i) w) (hY : ∀ i w, i < xs.size → (part e ys i).run P w = .ok (Y i) w) (hR : ∀ i w, i < xs.size → (Op.equalIn (d + 1) e (X i) (Y i)).run P w = .ok (R i) w) :
    ∀ (n s : Nat) (w : World), s + n ≤ xs.size →
    (forIn (m := Sem) (List.range' s n) ((none : Option Bool), ()) fun i __s => do
            let __do_lift ← part e xs i
            let __do_lift_1 ← part e ys i
            let __do_lift ← Op.equalIn (d + 1) e __do_lift __do_lift_1
            if __do_lift = false then pure (ForInStep.done (some false, ())) else pure (ForInStep.yield (none, ()))).run P w = .ok (if (List.range' s n).all R then (none, ()) else (some false, ())) w
  | 0, s, w, _ => by simp
  | n + 1, s, w, h => by
    simp only [List.range'_succ, List.forIn_cons, Sem.run_bind, hX s w (by omega), Result.andThen_ok, hY s w (by omega), hR s w (by omega), List.all_cons]
    cases hr : R s
    · simp
    · simp only [Bool.true_eq_false, if_false, Sem.run_pure, Result.andThen_ok, Bool.true_and]
      exact run_arr_loop e d xs ys X Y R hX hY hR n (s + 1) w (by omega)

theorem run_equalIn_arr (d n : Nat) (t e : TypeId) (xs ys : Array Value) (X Y : Nat → Value) (R : Nat → Bool) (w : World) (ht : P.underlying t = some (.array n e)) (hs : ∀ w, (sizeOf e).run P w = .ok 1 w) (hn : xs.size = n)
    (hX : ∀ i w, i < xs.size → (part e xs i).run P w = .ok (X i) w) (hY : ∀ i w, i < xs.size → (part e ys i).run P w = .ok (Y i) w) (hR : ∀ i w, i < xs.size → (Op.equalIn (d + 1) e (X i) (Y i)).run P w = .ok (R i) w) :
    (Op.equalIn (d + 2) t (.agg xs) (.agg ys)).run P w = .ok ((List.range' 0 n).all R) w := by
  unfold Op.equalIn
  have hl := run_arr_loop e d xs ys X Y R hX hY hR n 0 w (by omega)
  simp [run_underlying ht, hs]
  rw [hl]
  cases h : (List.range' 0 n).all R
  · simp
  · simp

theorem run_equalIn_ints (d n : Nat) (t e : TypeId) (k : IntKind) (l m : List Int) (w : World) (ht : P.underlying t = some (.array n e)) (he : P.underlying e = some (.int k)) (hs : ∀ w, (sizeOf e).run P w = .ok 1 w) (hg : ∀ w, (isAgg e).run P w = .ok false w)
    (hl : l.length = n) (hm : m.length = n) :
    (Op.equalIn (d + 2) t (.agg ⟨l.map (.int k)⟩) (.agg ⟨m.map (.int k)⟩)).run P w = .ok (l == m) w := by
  have h := run_equalIn_arr (P := P) d n t e ⟨l.map (.int k)⟩ ⟨m.map (.int k)⟩ (fun i => .int k (l.getD i 0)) (fun i => .int k (m.getD i 0)) (fun i => l.getD i 0 == m.getD i 0) w ht hs (by simpa using hl)
    (fun i w hi => run_part_cell hg (by simp at hi; simp [List.getD, hi]) w) (fun i w hi => run_part_cell hg (by simp at hi; simp [List.getD, show i < m.length by omega]) w)
    (fun i w hi => by simp [run_equalIn_int w d e k k _ _ he])
  rw [h]
  congr 1
  rw [Bool.eq_iff_iff]
  simp only [List.all_eq_true, List.mem_range', beq_iff_eq]
  constructor
  · intro hh
    apply List.ext_getElem (by omega)
    intro i h1 h2
    have := hh i ⟨i, by omega, by omega⟩
    simpa [List.getD, h1, h2] using this
  · rintro rfl i _; rfl

theorem run_eql_ints (n : Nat) (t e : TypeId) (k : IntKind) (l m : List Int) (w : World) (ht : P.underlying t = some (.array n e)) (he : P.underlying e = some (.int k)) (hs : ∀ w, (sizeOf e).run P w = .ok 1 w) (hg : ∀ w, (isAgg e).run P w = .ok false w)
    (hl : l.length = n) (hm : m.length = n) :
    (binOp .eql t (.agg ⟨l.map (.int k)⟩) (.agg ⟨m.map (.int k)⟩)).run P w = .ok (.bool (l == m)) w := by
  rw [run_eql_struct, run_equalIn_ints 9998 n t e k l m w ht he hs hg hl hm]
  rfl
end
theorem run_neq_ints (P : Program) (n : Nat) (t e : TypeId) (k : IntKind) (l m : List Int) (w : World) (ht : P.underlying t = some (.array n e)) (he : P.underlying e = some (.int k)) (hs : ∀ w, (sizeOf e).run P w = .ok 1 w) (hg : ∀ w, (isAgg e).run P w = .ok false w)
    (hl : l.length = n) (hm : m.length = n) :
    (binOp .neq t (.agg ⟨l.map (.int k)⟩) (.agg ⟨m.map (.int k)⟩)).run P w = .ok (.bool (!(l == m))) w := by
  rw [run_neq_struct, run_equalIn_ints 9998 n t e k l m w ht he hs hg hl hm]
  rfl
theorem neq_mans (a b c : Int) (w : World) : (binOp .neq 31 (.agg #[.int .i64 a, .int .i64 b, .int .i64 c]) (.agg #[.int .i64 a, .int .i64 b, .int .i64 c])).run Tryz.prog w = .ok (.bool false) w := by
  have h := run_neq_ints Tryz.prog 3 31 3 .i64 [a, b, c] [a, b, c] w Tryz.underlying31 Tryz.underlying3 (fun _ => by kernel_rfl) (fun _ => by kernel_rfl) rfl rfl
  rw [beq_self_eq_true] at h
  exact h
theorem neq_incs (a b c d : Int) (w : World) : (binOp .neq 41 (.agg #[.int .u32 a, .int .u32 b, .int .u32 c, .int .u32 d]) (.agg #[.int .u32 a, .int .u32 b, .int .u32 c, .int .u32 d])).run Tryz.prog w = .ok (.bool false) w := by
  have h := run_neq_ints Tryz.prog 4 41 24 .u32 [a, b, c, d] [a, b, c, d] w Tryz.underlying41 Tryz.underlying24 (fun _ => by kernel_rfl) (fun _ => by kernel_rfl) rfl rfl
  rw [beq_self_eq_true] at h
  exact h
theorem eql_incs (a b c d : Int) (w : World) : (binOp .eql 41 (.agg #[.int .u32 a, .int .u32 b, .int .u32 c, .int .u32 d]) (.agg #[.int .u32 a, .int .u32 b, .int .u32 c, .int .u32 d])).run Tryz.prog w = .ok (.bool true) w := by
  have h := run_eql_ints (P := Tryz.prog) 4 41 24 .u32 [a, b, c, d] [a, b, c, d] w Tryz.underlying41 Tryz.underlying24 (fun _ => by kernel_rfl) (fun _ => by kernel_rfl) rfl rfl
  rw [beq_self_eq_true] at h
  exact h
end Go.Proofs.YtngcbpgafjnfaaaGreatDoor
