/- TopBeats' argument: a struct with two slices. -/
import Derived.Test.YtlfnkplgjlpaaaaTopW
import Derived.Deep.Grids
namespace Go.Proofs.Ytlfnkplgjlpaaaa
open Go.ChangeShapes Go.WideShapes Go.ChangeAt Go.RowKit Go.Deep
set_option linter.unusedVariables false

section
variable {H : Type} {enc : TypeId × Value → H} {W : World} {held : Bool}
/-- a slice of bools by its reading -/
theorem bools_of_trod {fuel : Nat} {cs0 : List Value} {d : DataW H} {p : List MemPlace} (h : DataW.trod enc Try.prog W 0 (fun _ => true) held fuel 54 cs0 = some (d, p)) :
    ∃ ao n cap l, cs0 = [.slice ao n cap] ∧ l.length = n ∧ n ≤ cap ∧ cap ≤ maxLen ∧ BoolsRd W ao l := by
  rcases open_bools Try.underlying54 Try.underlying4 (by kernel_rfl) h with ⟨hcs, hx⟩ | ⟨a, len, cap, B, hcs, hb, hl, hm, hx, hcell⟩
  · exact ⟨none, 0, 0, [], hcs, rfl, Nat.le_refl _, Nat.zero_le _, fun j z hj => by simp at hj⟩
  · refine ⟨some a, len, cap, (List.range len).map B, hcs, by simp, hl, hm, fun j z hj => ?_⟩
    rw [List.getElem?_map] at hj
    have hjl : j < len := by
      have := (List.getElem?_eq_some_iff.1 (Option.map_eq_some_iff.1 hj).choose_spec.1).1
      simpa using this
    rw [List.getElem?_range hjl] at hj
    cases hj
    have h0 := hcell 0 (by omega)
    rw [add_zero] at h0
    obtain ⟨b, off, rfl⟩ := no_spot h0
    have hj := hcell j (by omega)
    rw [Go.WideShapes.add_plain] at hj
    exact ⟨b, off, rfl, World.block_lt_of_cell? W _ hj, hj⟩
set_option maxRecDepth 100000 in
theorem beats_arg {d : DataW H} {base : Nat} {v : Value} {p : List MemPlace} (ok : Value.okWide Try.prog W .any base 56 v) (k : DataW.Trod enc Try.prog W 0 (fun _ => true) held 56 v d p) :
    ∃ x0 x1 ao n cap l bo n2 cap2 l2, v = .agg #[.int .i64 x0, .int .i64 x1, .slice ao n cap, .slice bo n2 cap2] ∧ (Lit.int .i64 x0).wf = true ∧ (Lit.int .i64 x1).wf = true ∧ l.length = n ∧ n ≤ cap ∧ cap ≤ maxLen ∧
      l2.length = n2 ∧ n2 ≤ cap2 ∧ cap2 ≤ maxLen ∧ IntsRd W ao l ∧ BoolsRd W bo l2 := by
  obtain ⟨cs, rfl, hl, _⟩ := flat_cells (ts := [3, 3, 39, 54]) (by kernel_rfl) (by kernel_rfl) (by kernel_rfl) ok
  obtain ⟨u0, u1, u2, u3, rfl⟩ := list4 cs (by simpa using hl)
  obtain ⟨fuel, hf⟩ := k
  change DataW.trod enc Try.prog W 0 (fun _ => true) held fuel 56 [u0, u1, u2, u3] = some (d, p) at hf
  obtain ⟨y0, y1, y2, y3, n2, hy, _, t0, t1, t2, t3⟩ := Joins.trod_struct4 Try.underlying56 hf
  change DataW.trod enc Try.prog W 0 (fun _ => true) held n2 3 (([u0, u1, u2, u3].drop 0).take (Try.prog.cellsOf 3)) = some y0 at t0
  change DataW.trod enc Try.prog W 0 (fun _ => true) held n2 3 (([u0, u1, u2, u3].drop 1).take (Try.prog.cellsOf 3)) = some y1 at t1
  change DataW.trod enc Try.prog W 0 (fun _ => true) held n2 39 (([u0, u1, u2, u3].drop 2).take (Try.prog.cellsOf 39)) = some y2 at t2
  change DataW.trod enc Try.prog W 0 (fun _ => true) held n2 54 (([u0, u1, u2, u3].drop 3).take (Try.prog.cellsOf 54)) = some y3 at t3
  have c3 : Try.prog.cellsOf 3 = 1 := by kernel_rfl
  have c39 : Try.prog.cellsOf 39 = 1 := by kernel_rfl
  have c54 : Try.prog.cellsOf 54 = 1 := by kernel_rfl
  rw [c3] at t0 t1
  rw [c39] at t2
  rw [c54] at t3
  simp only [List.drop_zero, List.take_succ_cons, List.take_zero, List.drop_succ_cons] at t0 t1 t2 t3
  obtain ⟨x0, e0, _, w0⟩ := DataW.trod_int Try.underlying3 t0
  obtain ⟨x1, e1, _, w1⟩ := DataW.trod_int Try.underlying3 t1
  obtain ⟨ao, n, cap, l, e2, h1, h2, h3, h4, _⟩ := ints_of_trod t2
  obtain ⟨bo, m, cap2, l2, e3, g1, g2, g3, g4⟩ := bools_of_trod t3
  simp only [List.cons.injEq, and_true] at e0 e1 e2 e3
  subst e0 e1 e2 e3
  exact ⟨x0, x1, ao, n, cap, l, bo, m, cap2, l2, rfl, w0, w1, h1, h2, h3, g1, g2, g3, h4, g4⟩
end
end Go.Proofs.Ytlfnkplgjlpaaaa
