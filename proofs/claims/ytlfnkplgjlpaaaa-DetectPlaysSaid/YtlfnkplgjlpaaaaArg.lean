/- Arguments that are slices: a script's steps. -/
import Derived.Test.YtlfnkplgjlpaaaaBi
import Derived.SizedLaws
import Derived.DataReads
import Derived.MakeChecks
import Derived.Deep.Slices
import Derived.Deep.SlicePairs
import Derived.Deep.Strs
import Derived.Lib.SmallJoins
namespace Go.Proofs.Ytlfnkplgjlpaaaa
open Go.ChangeShapes Go.WideShapes Go.ChangeAt Go.RowKit Go.Deep
set_option linter.unusedVariables false

/-- n steps of a script lie from ao on -/
def OpsRd (W : World) (ao : Option Addr) (n : Nat) : Prop :=
  ∀ i, i < n → ∃ g o kind num x raw, ao = some ⟨g, o, none⟩ ∧ (Lit.int .i64 num).wf = true ∧ (Lit.int .i64 x).wf = true ∧ g < W.heap.size ∧ W.cell? ⟨g, o + i * 4, none⟩ = some (.int .i64 kind) ∧ W.cell? ⟨g, o + i * 4 + 1, none⟩ = some (.int .i64 num) ∧
    W.cell? ⟨g, o + i * 4 + 2, none⟩ = some (.int .i64 x) ∧ W.cell? ⟨g, o + i * 4 + 3, none⟩ = some (.bool raw)
theorem OpsRd.below {W W' : World} {ao : Option Addr} {n : Nat} (h : OpsRd W ao n) (b : Below W.heap.size W W') : OpsRd W' ao n := fun i hi => by
  obtain ⟨g, o, kind, num, x, raw, e, f1, f2, h0, h1, h2, h3, h4⟩ := h i hi
  exact ⟨g, o, kind, num, x, raw, e, f1, f2, Nat.lt_of_lt_of_le h0 b.size, (b.cell h0).trans h1, (b.cell h0).trans h2, (b.cell h0).trans h3, (b.cell h0).trans h4⟩

theorem cells_each {w : World} {base : Nat} {a : Addr} {n : Nat} {cs : List Value} (h : w.cells? base a n = some cs) : cs.length = n ∧ ∀ i, i < n → w.cell? (a.add i) = cs[i]? := by
  unfold World.cells? at h
  split at h
  · constructor
    · have := Lib.mapM_length h; simpa using this
    · intro i hi
      obtain ⟨b, hb, hf⟩ := Lib.mapM_at h i i (by simp [hi])
      rw [hf, hb]
  · cases h
theorem add_zero (a : Addr) : a.add 0 = a := by unfold Addr.add; split <;> simp_all
theorem no_spot {a : Addr} {w : World} {v : Value} (h : w.cell? a = some v) : ∃ g o, a = ⟨g, o, none⟩ := by
  obtain ⟨b, off, spot⟩ := a
  have hspot : spot = none := by simpa using World.cell?_spot h
  subst hspot
  exact ⟨b, off, rfl⟩

section
variable {H : Type} {enc : TypeId × Value → H} {W : World} {held : Bool}
set_option maxRecDepth 100000 in
theorem ops_arg {ts : List TypeId} {ds : List (DataW H)} (hsz : (DataW.weightsEach Try.prog ts ds).all (· ≤ reachBytes) = true) {d : DataW H} (j : Nat) (ht : ts[j]? = some 22) (hd : ds[j]? = some d)
    {base : Nat} {v : Value} {p : List MemPlace} (ok : Value.okWide Try.prog W .any base 22 v) (k : DataW.Trod enc Try.prog W 0 (fun _ => true) held 22 v d p) :
    ∃ ao n cap, v = .slice ao n cap ∧ n ≤ cap ∧ cap ≤ maxLen ∧ OpsRd W ao n := by
  obtain ⟨a0, len0, cap0, rfl⟩ := okWide_slice Try.underlying22 ok
  obtain ⟨fuel, hf⟩ := k
  rcases open_slice Try.underlying22 hf with ⟨hcs, hx⟩ | ⟨a, len, cap, m, f, D, Pl, hcs, hb, hl, hm, hmm, hx, hall⟩
  · have e : Value.slice a0 len0 cap0 = .slice none 0 0 := by simpa [Value.cells] using hcs
    exact ⟨none, 0, 0, e, Nat.le_refl _, Nat.zero_le _, fun i hi => by omega⟩
  · have e : Value.slice a0 len0 cap0 = .slice (some a) len cap := by simpa [Value.cells] using hcs
    simp only [if_true] at hmm
    have c42 : Try.prog.cellsOf 37 = 4 := by kernel_rfl
    have c3 : Try.prog.cellsOf 3 = 1 := by kernel_rfl
    have c2 : Try.prog.cellsOf 2 = 1 := by kernel_rfl
    have c6 : Try.prog.cellsOf 4 = 1 := by kernel_rfl
    refine ⟨some a, len, cap, e, hl, hm, fun i hi => ?_⟩
    obtain ⟨g, o, rfl⟩ : ∃ g o, a = ⟨g, o, none⟩ := by
      obtain ⟨cs', h1, h2⟩ := hall 0 (by omega)
      rw [Nat.zero_mul, add_zero, c42] at h1
      obtain ⟨hl2, hce⟩ := cells_each h1
      match cs', hl2 with
      | [u0, u1, u2, u3], _ =>
        have h7 := hce 0 (by omega)
        rw [add_zero] at h7
        simp only [List.getElem?_cons_zero] at h7
        exact no_spot h7
    obtain ⟨cs', h1, h2⟩ := hall i (by omega)
    rw [c42] at h1
    obtain ⟨hl2, hce⟩ := cells_each h1
    obtain ⟨y0, y1, y2, y3, n2, hy, _, t0, t1, t2, t3⟩ := Joins.trod_struct4 Try.underlying37 h2
    match cs', hl2 with
    | [u0, u1, u2, u3], _ =>
      change DataW.trod enc Try.prog W 0 (fun _ => true) held n2 3 (([u0, u1, u2, u3].drop 0).take (Try.prog.cellsOf 3)) = some y0 at t0
      change DataW.trod enc Try.prog W 0 (fun _ => true) held n2 3 (([u0, u1, u2, u3].drop 1).take (Try.prog.cellsOf 3)) = some y1 at t1
      change DataW.trod enc Try.prog W 0 (fun _ => true) held n2 2 (([u0, u1, u2, u3].drop 2).take (Try.prog.cellsOf 2)) = some y2 at t2
      change DataW.trod enc Try.prog W 0 (fun _ => true) held n2 4 (([u0, u1, u2, u3].drop 3).take (Try.prog.cellsOf 4)) = some y3 at t3
      rw [c3] at t0 t1
      rw [c2] at t2
      rw [c6] at t3
      simp only [List.drop_zero, List.take_succ_cons, List.take_zero, List.drop_succ_cons] at t0 t1 t2 t3
      obtain ⟨kind, e0, _, _⟩ := DataW.trod_int Try.underlying3 t0
      obtain ⟨num, e1, _, wnum⟩ := DataW.trod_int Try.underlying3 t1
      obtain ⟨x, e2, _, wx⟩ := DataW.trod_int Try.underlying2 t2
      obtain ⟨raw, e3, _⟩ := DataW.trod_bool Try.underlying4 t3
      simp only [List.cons.injEq, and_true] at e0 e1 e2 e3
      subst e0 e1 e2 e3
      have q0 := hce 0 (by omega)
      have q1 := hce 1 (by omega)
      have q2 := hce 2 (by omega)
      have q3 := hce 3 (by omega)
      simp only [List.getElem?_cons_zero, List.getElem?_cons_succ] at q0 q1 q2 q3
      rw [add_zero, Addr.add_lit] at q0
      rw [Addr.add_lit, Addr.add_lit] at q1 q2 q3
      exact ⟨g, o, kind, num, x, raw, rfl, wnum, wx, World.block_lt_of_cell? W _ q0, q0, q1, q2, q3⟩
end
/-- a slice reads as integers -/
def IntsRd (W : World) (ao : Option Addr) (l : List Int) : Prop :=
  (∀ c ∈ l, -9223372036854775808 ≤ c ∧ c ≤ 9223372036854775807) ∧ ∀ (j : Nat) (z : Int), l[j]? = some z → ∃ g o, ao = some ⟨g, o, none⟩ ∧ g < W.heap.size ∧ W.cell? ⟨g, o + j, none⟩ = some (.int .i64 z)
theorem IntsRd.nil (W : World) (ao : Option Addr) : IntsRd W ao [] := ⟨by simp, by simp⟩
theorem IntsRd.below {W W' : World} {ao : Option Addr} {l : List Int} (h : IntsRd W ao l) (b : Below W.heap.size W W') : IntsRd W' ao l := ⟨h.1, fun j z hj => by
  obtain ⟨g, o, e, h0, h1⟩ := h.2 j z hj
  exact ⟨g, o, e, Nat.lt_of_lt_of_le h0 b.size, (b.cell h0).trans h1⟩⟩
section
variable {H : Type} {enc : TypeId × Value → H} {W : World} {held : Bool}
/-- a slice of integers by its reading -/
theorem ints_of_trod {fuel : Nat} {cs0 : List Value} {d : DataW H} {p : List MemPlace} (h : DataW.trod enc Try.prog W 0 (fun _ => true) held fuel 39 cs0 = some (d, p)) :
    ∃ ao n cap l, cs0 = [.slice ao n cap] ∧ l.length = n ∧ n ≤ cap ∧ cap ≤ maxLen ∧ IntsRd W ao l ∧ (n = 0 ∨ ∃ elems spare, d = .slice elems spare ∧ elems.length = n) := by
  rcases open_ints Try.underlying39 Try.underlying3 (by kernel_rfl) h with ⟨hcs, hx⟩ | ⟨a, len, cap, zs, hcs, hb, hl, hm, hz, hx, hcell, hwf⟩
  · exact ⟨none, 0, 0, [], hcs, rfl, Nat.le_refl _, Nat.zero_le _, IntsRd.nil _ _, .inl rfl⟩
  · simp only [if_true] at hz
    refine ⟨some a, len, cap, zs.take len, hcs, by simp; omega, hl, hm, ⟨?_, ?_⟩, .inr ⟨_, _, congrArg Prod.fst hx, by simp [lits]; omega⟩⟩
    · intro c hc
      exact bounds_i64 (hwf c (List.mem_of_mem_take hc))
    · intro j z hj
      obtain ⟨hj1, hj2⟩ := List.getElem?_eq_some_iff.1 hj
      rw [List.length_take] at hj1
      obtain ⟨b, off, rfl, hc⟩ := ints_at hcell (by omega)
      have h1 := hc j (by omega)
      refine ⟨b, off, rfl, World.block_lt_of_cell? W _ h1, ?_⟩
      rw [h1]
      rw [List.getElem_take] at hj2
      have hj3 : j < zs.length := by omega
      rw [← hj2, List.getD_eq_getElem?_getD, List.getElem?_eq_getElem hj3]
      rfl
set_option maxRecDepth 100000 in
theorem ints_arg {ts : List TypeId} {ds : List (DataW H)} (hsz : (DataW.weightsEach Try.prog ts ds).all (· ≤ reachBytes) = true) {d : DataW H} (j : Nat) (ht : ts[j]? = some 39) (hd : ds[j]? = some d)
    {base : Nat} {v : Value} {p : List MemPlace} (ok : Value.okWide Try.prog W .any base 39 v) (k : DataW.Trod enc Try.prog W 0 (fun _ => true) held 39 v d p) :
    ∃ ao n cap l, v = .slice ao n cap ∧ l.length = n ∧ n ≤ cap ∧ cap ≤ maxLen ∧ n ≤ 17592186043904 ∧ IntsRd W ao l := by
  obtain ⟨a0, len0, cap0, rfl⟩ := okWide_slice Try.underlying39 ok
  obtain ⟨fuel, hf⟩ := k
  obtain ⟨ao, n, cap, l, e, h1, h2, h3, h4, h5⟩ := ints_of_trod hf
  have e' : Value.slice a0 len0 cap0 = .slice ao n cap := by simpa [Value.cells] using e
  refine ⟨ao, n, cap, l, e', h1, h2, h3, ?_, h4⟩
  rcases h5 with rfl | ⟨elems, spare, rfl, rfl⟩
  · omega
  · have := sized_slice hsz ht hd Try.underlying39
    have hby : Try.prog.bytesOf 3 = 8 := by kernel_rfl
    rw [hby] at this
    have e : reachBytes = 140737488351232 := rfl
    omega
end
end Go.Proofs.Ytlfnkplgjlpaaaa
