/- Overlap and held of package arcs: rows of 64 bools. -/
import Derived.Test.YtjgmgcniemncjaaRow
import Derived.Test.YtjgmgcniemncjaaHas
namespace Go.Proofs.Ytjgmgcniemncjaa
open Go.RowKit Go.Sort
set_option linter.unusedVariables false

theorem places_row (w : World) {g : Nat} {bs : List Bool} (h : Row w g 49 bs) (hl : bs.length = 64) : (Instr.loadAt 49 (.pointer (some ⟨g, 0, none⟩))).run Try.prog w = .ok (.agg ⟨bs.map Value.bool⟩) w :=
  h.load Try.underlying49 (by kernel_rfl) hl
theorem arr_row (w : World) {g : Nat} {bs : List Bool} (h : Row w g 37 bs) (hl : bs.length = 64) : (Instr.loadAt 37 (.pointer (some ⟨g, 0, none⟩))).run Try.prog w = .ok (.agg ⟨bs.map Value.bool⟩) w :=
  h.load Try.underlying37 (by kernel_rfl) hl
theorem neq_places (l m : List Bool) (hl : l.length = 64) (hm : m.length = 64) (w : World) : (binOp .neq 49 (.agg ⟨l.map .bool⟩) (.agg ⟨m.map .bool⟩)).run Try.prog w = .ok (.bool (l != m)) w :=
  run_neq_bools 64 _ 4 l m w Try.underlying49 Try.underlying4 (fun _ => by kernel_rfl) (fun _ => by kernel_rfl) hl hm
theorem eql_arr (l m : List Bool) (hl : l.length = 64) (hm : m.length = 64) (w : World) : (binOp .eql 37 (.agg ⟨l.map .bool⟩) (.agg ⟨m.map .bool⟩)).run Try.prog w = .ok (.bool (l == m)) w :=
  run_eql_bools 64 _ 4 l m w Try.underlying37 Try.underlying4 (fun _ => by kernel_rfl) (fun _ => by kernel_rfl) hl hm

/-- no place -/
def zeros : List Bool := List.replicate 64 false
theorem zeros_length : zeros.length = 64 := by simp [zeros]
theorem build_places (w : World) : (Instr.build 49 #[]).run Try.prog w = .ok (.agg ⟨zeros.map Value.bool⟩) w := run_build w _ _ _ (by kernel_rfl)

/-- have two arcs a place in common -/
def ovB (f s g t : Int) : Bool := (List.range 64).any fun p : Nat => hasB f s p && hasB g t p
theorem ov_upto (f s g t : Int) : (upto (fun p => hasB f s p && hasB g t p) 64 != zeros) = ovB f s g t := by
  rw [upto_all]
  unfold ovB zeros
  rw [Bool.eq_iff_iff, bne_iff_ne, ne_eq, List.any_eq_true]
  constructor
  · intro h
    apply Classical.byContradiction
    intro hn
    apply h
    apply List.ext_getElem (by simp)
    intro i h1 h2
    simp only [List.getElem_map, List.getElem_range, List.getElem_replicate]
    cases hv : hasB f s i && hasB g t i
    · rfl
    · exact absurd ⟨i, by simpa using h1, hv⟩ hn
  · rintro ⟨i, hi, hv⟩ h
    have hm : (hasB f s i && hasB g t i) ∈ (List.range 64).map (fun p : Nat => hasB f s p && hasB g t p) := List.mem_map.2 ⟨i, hi, rfl⟩
    rw [h, List.mem_replicate, hv] at hm
    exact absurd hm.2 (by simp)

set_option maxHeartbeats 2000000 in
theorem overlap_any (f s g t : Int) : Ret 18 #[arc f s, arc g t] (.returned (.bool (ovB f s g t))) := by
  intro w
  have HO := Lib.hid (ov_upto f s g t)
  have HU := Lib.hid (upto_succ fun p => hasB f s p && hasB g t p)
  have CH := Lib.hid has_any
  have NQ := Lib.hid (neq_places (upto (fun p => hasB f s p && hasB g t p) 64) zeros (upto_length _ _) zeros_length)
  go_enter Try.func18, Try.ntmps18
  go_wp2_with fail
  have m1 := (((Holds.nil w).new2 (.int .i64 f) (.int .i64 s) 23).new2 (.int .i64 g) (.int .i64 t) 23)
  have hW : Below w.heap.size w ((w.alloc (.cells #[.int .i64 f, .int .i64 s] 23)).alloc (.cells #[.int .i64 g, .int .i64 t] 23)) := below_alloc (below_alloc (Below.refl _ _) _) _
  obtain ⟨g1, g2, g3⟩ := m1.two
  obtain ⟨g4, g5, g6⟩ := m1.tail.tail.two
  clear m1
  simp only [World.size_alloc] at g1 g2 g3 g4 g5 g6
  have hz : w.heap.size + 1 + 1 = ((w.alloc (.cells #[.int .i64 f, .int .i64 s] 23)).alloc (.cells #[.int .i64 g, .int .i64 t] 23)).heap.size := by simp
  generalize (w.alloc (.cells #[.int .i64 f, .int .i64 s] 23)).alloc (.cells #[.int .i64 g, .int .i64 t] 23) = W at *
  rw [hz]
  change Code.wp _ _ _ _ (World.alloc W (.cells ⟨zeros.map Value.bool⟩ 49))
  have hrow : Row (W.alloc (.cells ⟨zeros.map Value.bool⟩ 49)) W.heap.size 49 (upto (fun p => hasB f s p && hasB g t p) 0) := by
    rw [upto_zero]; exact Row.new W _ zeros
  have hb0 : Below W.heap.size W (W.alloc (.cells ⟨zeros.map Value.bool⟩ 49)) := below_alloc (Below.refl _ _) _
  generalize W.alloc (.cells ⟨zeros.map Value.bool⟩ 49) = W2 at *
  have hA1 : w.heap.size + 1 < W.heap.size := by omega
  have hA0 : w.heap.size < W.heap.size := by omega
  clear hz g3 g6
  go_loopw [7] (fun i wr => ∃ k : Nat, k ≤ 64 ∧ i = .int .i64 k ∧ Row wr W.heap.size 49 (upto (fun p => hasB f s p && hasB g t p) k) ∧ Below W.heap.size W wr) (fun i _ => 64 - (intOf i).toNat)
  case atStart => exact ⟨0, Nat.zero_le _, rfl, hrow, hb0⟩
  case round =>
    clear hrow hb0
    obtain ⟨k, hk, rfl, hr, hb⟩ := hrel
    by_cases hlt : k < 64
    · have HR := Lib.hid hr; clear hr
      have r1 := (hb.cell (p := ⟨w.heap.size + 1, 0, none⟩) hA1).trans g1
      have r2 := (hb.cell (p := ⟨w.heap.size + 1, 1, none⟩) hA1).trans g2
      have r4 := (hb.cell (p := ⟨w.heap.size, 0, none⟩) hA0).trans g4
      have r5 := (hb.cell (p := ⟨w.heap.size, 1, none⟩) hA0).trans g5
      clear g1 g2 g4 g5
      cases hv : hasB f s k
      · have c1 := has_any f s k; rw [hv] at c1
        have HV := Lib.hid hv; clear hv
        have C1 := Lib.hid c1; clear c1
        go_wp2_with fail
        refine (C1.out _).mono ?_
        rintro e w3 ⟨rfl, l3⟩
        have hr3 := HR.out.keep l3
        have c3 := hr3.cell k (by rw [upto_length]; exact hlt)
        have z3 := hr3.frozen k
        have hb3 := below_next hb l3
        have HR3 := Lib.hid hr3; clear hr3 r1 r2 r4 r5 l3 hb HR
        go_wp2_with fail
        go_roundw
        case rel => exact ⟨k + 1, by omega, by go_num, by rw [HU.out, HV.out]; exact HR3.out.set k false, hb3.setCell (Nat.le_refl _) _⟩
        case measure => simp [intOf]; omega
      · have c1 := has_any f s k; rw [hv] at c1
        have HV := Lib.hid hv; clear hv
        have C1 := Lib.hid c1; clear c1
        go_wp2_with fail
        refine (C1.out _).mono ?_
        rintro e w3 ⟨rfl, l3⟩
        have q1 := (l3.cell (p := ⟨w.heap.size + 1, 0, none⟩) (Nat.lt_of_lt_of_le hA1 hb.size)).trans r1
        have q2 := (l3.cell (p := ⟨w.heap.size + 1, 1, none⟩) (Nat.lt_of_lt_of_le hA1 hb.size)).trans r2
        have hr3 := Lib.hid (HR.out.keep l3)
        have hb3 := below_next hb l3
        clear r1 r2 r4 r5 l3 hb HR
        go_wp2_with fail
        refine (CH.out _ _ _ _).mono ?_
        rintro e w4 ⟨rfl, l4⟩
        have hr4 := hr3.out.keep l4
        have c4 := hr4.cell k (by rw [upto_length]; exact hlt)
        have z4 := hr4.frozen k
        have hb4 := below_next hb3 l4
        have HR4 := Lib.hid hr4; clear hr4 q1 q2 l4 hb3 hr3
        go_wp2_with fail
        go_roundw
        case rel => exact ⟨k + 1, by omega, by go_num, by rw [HU.out, HV.out]; exact HR4.out.set k _, hb4.setCell (Nat.le_refl _) _⟩
        case measure => simp [intOf]; omega
    · obtain rfl : k = 64 := by omega
      have hl := places_row wr hr (upto_length _ _)
      have nq := NQ.out wr
      have hbd := build_places wr
      clear g1 g2 g4 g5
      go_wp2_with (first
        | (refine wpList_value rfl _ (exec_load 49 (.tmp 5) rfl rfl hl) ?_)
        | (refine wpList_value rfl _ (exec_build 49 rfl hbd) ?_)
        | (refine wpList_value rfl _ (exec_bin .neq 49 49 (.tmp 21) (.tmp 22) rfl rfl rfl nq (run_eqGuard_agg _ _ _ _ _ _ _ (by kernel_rfl))) ?_))
      go_ret
      exact ⟨ret_bool HO.out, hW.trans (hb.mono hW.size)⟩

end Go.Proofs.Ytjgmgcniemncjaa
