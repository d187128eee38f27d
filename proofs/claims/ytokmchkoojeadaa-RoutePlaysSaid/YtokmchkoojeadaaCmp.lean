/- Positions: less, Between of package ring, and the document's; equality. -/
import Derived.Test.YtokmchkoojeadaaRow
import Derived.Laws.StructEq
import Derived.Deep.CutRange
namespace Go.Proofs.Ytokmchkoojeadaa
open Go.RowKit Go.Sort
set_option linter.unusedVariables false

abbrev Ret (n : Nat) (xs : Array Value) (r : Ending) : Prop := ∀ w, Calls Try.prog n xs w fun e w' => e = r ∧ Below w.heap.size w w'
abbrev pos (h l : Int) : Value := .agg #[.int .u64 h, .int .u64 l]
/-- does the first lie below the second -/
def ls (h l h' l' : Int) : Bool := decide (h < h') || (decide (h = h') && decide (l < l'))
theorem ls_iff {h l h' l' : Int} : ls h l h' l' = true ↔ (h < h' ∨ h = h' ∧ l < l') := by simp [ls]
/-- does x lie behind a, ahead of b, around the ring -/
def btw (ah al xh xl bh bl : Int) : Bool := if ls ah al bh bl then ls ah al xh xl && ls xh xl bh bl else ls ah al xh xl || ls xh xl bh bl

theorem eql_pos (a b c d : Int) (w : World) : (binOp .eql 24 (.agg #[.int .u64 a, .int .u64 b]) (.agg #[.int .u64 c, .int .u64 d])).run Try.prog w = .ok (.bool (a == c && b == d)) w := by
  have hu := Try.underlying24
  rw [run_eql_struct, run_equalIn_agg w 9999 _ _ _ (by kernel_rfl) (by kernel_rfl)]
  rw [show (Try.prog.fieldsOf 24) = _ from by unfold Program.fieldsOf; rw [hu]]
  go_simp
  by_cases h1 : a = c <;> by_cases h2 : b = d <;> simp [h1, h2]
theorem neq_pos (a b c d : Int) (w : World) : (binOp .neq 24 (.agg #[.int .u64 a, .int .u64 b]) (.agg #[.int .u64 c, .int .u64 d])).run Try.prog w = .ok (.bool (!(a == c && b == d))) w := by
  have hu := Try.underlying24
  rw [run_neq_struct, run_equalIn_agg w 9999 _ _ _ (by kernel_rfl) (by kernel_rfl)]
  rw [show (Try.prog.fieldsOf 24) = _ from by unfold Program.fieldsOf; rw [hu]]
  go_simp
  by_cases h1 : a = c <;> by_cases h2 : b = d <;> simp [h1, h2]

set_option maxHeartbeats 1000000 in
theorem less_any (h l h' l' : Int) : Ret 40 #[pos h l, pos h' l'] (.returned (.bool (ls h l h' l'))) := by
  intro w
  have hway : h < h' ∨ h = h' ∨ h' < h := by omega
  rcases hway with k | rfl | k
  · rw [show ls h l h' l' = true by rw [ls_iff]; exact .inl k]
    go_enter Try.func40, Try.ntmps40
    go_wp2_with fail
    go_ret
    exact ⟨rfl, below_alloc (below_alloc (Below.refl _ _) _) _⟩
  · rw [show ls h l h l' = decide (l < l') by simp [ls]]
    go_enter Try.func40, Try.ntmps40
    go_wp2_with fail
    go_ret
    exact ⟨by simp, below_alloc (below_alloc (Below.refl _ _) _) _⟩
  · rw [show ls h l h' l' = false by rw [← Bool.not_eq_true, ls_iff]; omega]
    have k1 : ¬ h < h' := by omega
    have k2 : ¬ h = h' := by omega
    go_enter Try.func40, Try.ntmps40
    go_wp2_with fail
    go_ret
    exact ⟨rfl, below_alloc (below_alloc (Below.refl _ _) _) _⟩
set_option maxHeartbeats 1000000 in
theorem rless_any (h l h' l' : Int) : Ret 31 #[pos h l, pos h' l'] (.returned (.bool (ls h l h' l'))) := by
  intro w
  have hway : h = h' ∨ ¬ h = h' := by omega
  rcases hway with rfl | k
  · rw [show ls h l h l' = decide (l < l') by simp [ls]]
    go_enter Try.func31, Try.ntmps31
    go_wp2_with fail
    go_ret
    exact ⟨by simp, below_alloc (below_alloc (Below.refl _ _) _) _⟩
  · rw [show ls h l h' l' = decide (h < h') by simp [ls, k]]
    go_enter Try.func31, Try.ntmps31
    go_wp2_with fail
    go_ret
    exact ⟨by simp, below_alloc (below_alloc (Below.refl _ _) _) _⟩

/-- three positions in blocks of their own -/
abbrev three (w : World) (ah al xh xl bh bl : Int) : World := ((w.alloc (.cells #[.int .u64 ah, .int .u64 al] 24)).alloc (.cells #[.int .u64 xh, .int .u64 xl] 24)).alloc (.cells #[.int .u64 bh, .int .u64 bl] 24)
theorem three_holds (w : World) (ah al xh xl bh bl : Int) : Holds (three w ah al xh xl bh bl)
    [(⟨w.heap.size + 1 + 1, 0, none⟩, .int .u64 bh), (⟨w.heap.size + 1 + 1, 1, none⟩, .int .u64 bl), (⟨w.heap.size + 1, 0, none⟩, .int .u64 xh), (⟨w.heap.size + 1, 1, none⟩, .int .u64 xl), (⟨w.heap.size, 0, none⟩, .int .u64 ah), (⟨w.heap.size, 1, none⟩, .int .u64 al)] := by
  have := (((Holds.nil w).new2 (.int .u64 ah) (.int .u64 al) 24).new2 (.int .u64 xh) (.int .u64 xl) 24).new2 (.int .u64 bh) (.int .u64 bl) 24
  simpa only [World.size_alloc] using this
structure Three (w : World) (n : Nat) (ah al xh xl bh bl : Int) : Prop where
  a0 : w.cell? ⟨n, 0, none⟩ = some (.int .u64 ah)
  a1 : w.cell? ⟨n, 1, none⟩ = some (.int .u64 al)
  x0 : w.cell? ⟨n + 1, 0, none⟩ = some (.int .u64 xh)
  x1 : w.cell? ⟨n + 1, 1, none⟩ = some (.int .u64 xl)
  b0 : w.cell? ⟨n + 1 + 1, 0, none⟩ = some (.int .u64 bh)
  b1 : w.cell? ⟨n + 1 + 1, 1, none⟩ = some (.int .u64 bl)
  lt : n + 1 + 1 < w.heap.size
theorem Three.below {w w' : World} {n : Nat} {ah al xh xl bh bl : Int} (h : Three w n ah al xh xl bh bl) (b : Below w.heap.size w w') : Three w' n ah al xh xl bh bl := by
  have hl := h.lt
  have := b.size
  exact ⟨(b.cell (p := ⟨n, 0, none⟩) (by show n < _; omega)).trans h.a0, (b.cell (p := ⟨n, 1, none⟩) (by show n < _; omega)).trans h.a1, (b.cell (p := ⟨n + 1, 0, none⟩) (by show n + 1 < _; omega)).trans h.x0, (b.cell (p := ⟨n + 1, 1, none⟩) (by show n + 1 < _; omega)).trans h.x1, (b.cell (p := ⟨n + 1 + 1, 0, none⟩) hl).trans h.b0, (b.cell (p := ⟨n + 1 + 1, 1, none⟩) hl).trans h.b1, by omega⟩
theorem three_is (w : World) (ah al xh xl bh bl : Int) : Three (three w ah al xh xl bh bl) w.heap.size ah al xh xl bh bl := by
  have h := three_holds w ah al xh xl bh bl
  exact ⟨h.tail.tail.tail.tail.head, h.tail.tail.tail.tail.tail.head, h.tail.tail.head, h.tail.tail.tail.head, h.head, h.tail.head, h.lt⟩
theorem three_below (w : World) (ah al xh xl bh bl : Int) : Below w.heap.size w (three w ah al xh xl bh bl) := below_alloc (below_alloc (below_alloc (Below.refl _ _) _) _) _

set_option maxHeartbeats 2000000 in
theorem between_any (ah al xh xl bh bl : Int) : Ret 33 #[pos ah al, pos xh xl, pos bh bl] (.returned (.bool (btw ah al xh xl bh bl))) := by
  intro w
  have C1 := less_any ah al bh bl
  have C2 := less_any ah al xh xl
  have C3 := less_any xh xl bh bl
  unfold btw
  generalize ls ah al bh bl = p at *
  generalize ls ah al xh xl = q at *
  generalize ls xh xl bh bl = r at *
  have C1 := Lib.hid C1; have C2 := Lib.hid C2; have C3 := Lib.hid C3
  have T0 := Lib.hid (three_is w ah al xh xl bh bl)
  have B0 := Lib.hid (three_below w ah al xh xl bh bl)
  cases p <;> cases q
  all_goals
    go_enter Try.func33, Try.ntmps33
    go_upto_region 1 with (fail)
    have t0 := T0.out
    have b0 := B0.out
    change Code.wp _ _ _ _ (three w ah al xh xl bh bl)
    generalize three w ah al xh xl bh bl = w1 at *
    obtain ⟨c0, c1, c2, c3, c4, c5, _⟩ := t0
    go_wp2_with fail
    refine (C1.out _).mono ?_; rintro e w2 ⟨rfl, b2⟩
    have t2 := T0.out.below b2
    have BB := Lib.hid (below_next b0 b2)
    clear c0 c1 c2 c3 c4 c5 T0 B0 b0 b2
    have T2 := Lib.hid t2
    obtain ⟨c0, c1, c2, c3, c4, c5, _⟩ := t2
    go_wp2_with fail
    refine (C2.out _).mono ?_; rintro e w3 ⟨rfl, b3⟩
    have t3 := T2.out.below b3
    have BB := Lib.hid (below_next BB.out b3)
    clear c0 c1 c2 c3 c4 c5 T2 b3
    obtain ⟨c0, c1, c2, c3, c4, c5, _⟩ := t3
    go_wp2_with fail
    first
    | (go_ret; exact ⟨rfl, BB.out⟩)
    | (refine (C3.out _).mono ?_; rintro e w4 ⟨rfl, b4⟩
       have BB := Lib.hid (below_next BB.out b4)
       clear b4
       go_wp2_with fail
       go_ret
       exact ⟨by simp, BB.out⟩)
end Go.Proofs.Ytokmchkoojeadaa
