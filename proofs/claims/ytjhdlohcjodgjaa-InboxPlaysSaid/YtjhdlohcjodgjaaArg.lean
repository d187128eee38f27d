/- Arguments that are slices: a script's steps. -/
import Derived.Test.YtjhdlohcjodgjaaBs
import Derived.SizedLaws
import Derived.DataReads
import Derived.MakeChecks
import Derived.Deep.Slices
import Derived.Deep.SlicePairs
import Derived.Deep.Strs
import Derived.Lib.SmallJoins
namespace Go.Proofs.Ytjhdlohcjodgjaa
open Go.ChangeShapes Go.WideShapes Go.ChangeAt Go.RowKit Go.Deep
set_option linter.unusedVariables false

/-- n steps of a script lie from ao on -/
def OpsRd (W : World) (ao : Option Addr) (n : Nat) : Prop :=
  ∀ i, i < n → ∃ g o kind num x raw, ao = some ⟨g, o, none⟩ ∧ g < W.heap.size ∧ W.cell? ⟨g, o + i * 4, none⟩ = some (.int .i64 kind) ∧ W.cell? ⟨g, o + i * 4 + 1, none⟩ = some (.int .i64 num) ∧
    W.cell? ⟨g, o + i * 4 + 2, none⟩ = some (.int .i64 x) ∧ W.cell? ⟨g, o + i * 4 + 3, none⟩ = some (.bool raw)
theorem OpsRd.below {W W' : World} {ao : Option Addr} {n : Nat} (h : OpsRd W ao n) (b : Below W.heap.size W W') : OpsRd W' ao n := fun i hi => by
  obtain ⟨g, o, kind, num, x, raw, e, h0, h1, h2, h3, h4⟩ := h i hi
  exact ⟨g, o, kind, num, x, raw, e, Nat.lt_of_lt_of_le h0 b.size, (b.cell h0).trans h1, (b.cell h0).trans h2, (b.cell h0).trans h3, (b.cell h0).trans h4⟩

theorem cells_each {w : World} {base : Nat} {a : Addr} {n : Nat} {cs : List Value} (h : w.cells? base a n = some cs) : cs.length = n ∧ ∀ i, i < n → w.cell? (a.add i) = cs[i]? := by
  unfold World.cells? at h
  split at h
  · constructor
    · have := Lib.mapM_length h; simpa using this
    · intro i hi
      obtain ⟨b, hb, hf⟩ := Lib.mapM_at h i i (by simp [hi])
      rw [hf, hb]
  · cases h
theorem add_zero (a : Addr) : a.add 0 = a := by unfold Addr.add; split <;> simp_all
theorem no_spot {a : Addr} {w : World} {v : Value} (h : w.cell? a = some v) : ∃ g o, a = ⟨g, o, none⟩ := by
  obtain ⟨b, off, spot⟩ := a
  have hspot : spot = none := by simpa using World.cell?_spot h
  subst hspot
  exact ⟨b, off, rfl⟩

section
variable {H : Type} {enc : TypeId × Value → H} {W : World} {held : Bool}
set_option maxRecDepth 100000 in
theorem ops_arg {ts : List TypeId} {ds : List (DataW H)} (hsz : (DataW.weightsEach Try.prog ts ds).all (· ≤ reachBytes) = true) {d : DataW H} (j : Nat) (ht : ts[j]? = some 43) (hd : ds[j]? = some d)
    {base : Nat} {v : Value} {p : List MemPlace} (ok : Value.okWide Try.prog W .any base 43 v) (k : DataW.Trod enc Try.prog W 0 (fun _ => true) held 43 v d p) :
    ∃ ao n cap, v = .slice ao n cap ∧ n ≤ cap ∧ cap ≤ maxLen ∧ OpsRd W ao n := by
  obtain ⟨a0, len0, cap0, rfl⟩ := okWide_slice Try.underlying43 ok
  obtain ⟨fuel, hf⟩ := k
  rcases open_slice Try.underlying43 hf with ⟨hcs, hx⟩ | ⟨a, len, cap, m, f, D, Pl, hcs, hb, hl, hm, hmm, hx, hall⟩
  · have e : Value.slice a0 len0 cap0 = .slice none 0 0 := by simpa [Value.cells] using hcs
    exact ⟨none, 0, 0, e, Nat.le_refl _, Nat.zero_le _, fun i hi => by omega⟩
  · have e : Value.slice a0 len0 cap0 = .slice (some a) len cap := by simpa [Value.cells] using hcs
    simp only [if_true] at hmm
    have c42 : Try.prog.cellsOf 57 = 4 := by kernel_rfl
    have c3 : Try.prog.cellsOf 3 = 1 := by kernel_rfl
    have c2 : Try.prog.cellsOf 2 = 1 := by kernel_rfl
    have c6 : Try.prog.cellsOf 4 = 1 := by kernel_rfl
    refine ⟨some a, len, cap, e, hl, hm, fun i hi => ?_⟩
    obtain ⟨g, o, rfl⟩ : ∃ g o, a = ⟨g, o, none⟩ := by
      obtain ⟨cs', h1, h2⟩ := hall 0 (by omega)
      rw [Nat.zero_mul, add_zero, c42] at h1
      obtain ⟨hl2, hce⟩ := cells_each h1
      match cs', hl2 with
      | [u0, u1, u2, u3], _ =>
        have h7 := hce 0 (by omega)
        rw [add_zero] at h7
        simp only [List.getElem?_cons_zero] at h7
        exact no_spot h7
    obtain ⟨cs', h1, h2⟩ := hall i (by omega)
    rw [c42] at h1
    obtain ⟨hl2, hce⟩ := cells_each h1
    obtain ⟨y0, y1, y2, y3, n2, hy, _, t0, t1, t2, t3⟩ := Joins.trod_struct4 Try.underlying57 h2
    match cs', hl2 with
    | [u0, u1, u2, u3], _ =>
      change DataW.trod enc Try.prog W 0 (fun _ => true) held n2 3 (([u0, u1, u2, u3].drop 0).take (Try.prog.cellsOf 3)) = some y0 at t0
      change DataW.trod enc Try.prog W 0 (fun _ => true) held n2 3 (([u0, u1, u2, u3].drop 1).take (Try.prog.cellsOf 3)) = some y1 at t1
      change DataW.trod enc Try.prog W 0 (fun _ => true) held n2 2 (([u0, u1, u2, u3].drop 2).take (Try.prog.cellsOf 2)) = some y2 at t2
      change DataW.trod enc Try.prog W 0 (fun _ => true) held n2 4 (([u0, u1, u2, u3].drop 3).take (Try.prog.cellsOf 4)) = some y3 at t3
      rw [c3] at t0 t1
      rw [c2] at t2
      rw [c6] at t3
      simp only [List.drop_zero, List.take_succ_cons, List.take_zero, List.drop_succ_cons] at t0 t1 t2 t3
      obtain ⟨kind, e0, _, _⟩ := DataW.trod_int Try.underlying3 t0
      obtain ⟨num, e1, _, _⟩ := DataW.trod_int Try.underlying3 t1
      obtain ⟨x, e2, _, _⟩ := DataW.trod_int Try.underlying2 t2
      obtain ⟨raw, e3, _⟩ := DataW.trod_bool Try.underlying4 t3
      simp only [List.cons.injEq, and_true] at e0 e1 e2 e3
      subst e0 e1 e2 e3
      have q0 := hce 0 (by omega)
      have q1 := hce 1 (by omega)
      have q2 := hce 2 (by omega)
      have q3 := hce 3 (by omega)
      simp only [List.getElem?_cons_zero, List.getElem?_cons_succ] at q0 q1 q2 q3
      rw [add_zero, Addr.add_lit] at q0
      rw [Addr.add_lit, Addr.add_lit] at q1 q2 q3
      exact ⟨g, o, kind, num, x, raw, rfl, World.block_lt_of_cell? W _ q0, q0, q1, q2, q3⟩
end
end Go.Proofs.Ytjhdlohcjodgjaa
