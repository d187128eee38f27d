/- Arguments that are slices of positions. -/
import Derived.Test.YtokmchkoojeadaaSo
import Derived.SizedLaws
import Derived.DataReads
import Derived.MakeChecks
import Derived.Deep.Slices
import Derived.Deep.SlicePairs
import Derived.ChangeSame
import Derived.Lib.SmallJoins
namespace Go.Proofs.Ytokmchkoojeadaa
open Go.ChangeShapes Go.WideShapes Go.ChangeAt Go.RowKit Go.Deep
set_option linter.unusedVariables false
set_option linter.unusedSimpArgs false
set_option maxRecDepth 100000
theorem cells_each {w : World} {base : Nat} {a : Addr} {n : Nat} {cs : List Value} (h : w.cells? base a n = some cs) : cs.length = n ∧ ∀ i, i < n → w.cell? (a.add i) = cs[i]? := by
  unfold World.cells? at h
  split at h
  · constructor
    · have := Lib.mapM_length h; simpa using this
    · intro i hi
      obtain ⟨b, hb, hf⟩ := Lib.mapM_at h i i (by simp [hi])
      rw [hf, hb]
  · cases h
theorem add_zero (a : Addr) : a.add 0 = a := by unfold Addr.add; split <;> simp_all
theorem no_spot {a : Addr} {w : World} {v : Value} (h : w.cell? a = some v) : ∃ g o, a = ⟨g, o, none⟩ := by
  obtain ⟨b, off, spot⟩ := a
  have hspot : spot = none := by simpa using World.cell?_spot h
  subst hspot
  exact ⟨b, off, rfl⟩
/-- positions, whatever they are, from what each place holds -/
theorem posrd_of {W : World} {ao : Option Addr} : ∀ (n : Nat), (∀ j, j < n → ∃ g o h l, ao = some ⟨g, o, none⟩ ∧ g < W.heap.size ∧ W.cell? ⟨g, o + j * 2, none⟩ = some (.int .u64 h) ∧ W.cell? ⟨g, o + j * 2 + 1, none⟩ = some (.int .u64 l)) → ∃ R : List (Int × Int), R.length = n ∧ PosRd W ao R
  | 0, _ => ⟨[], rfl, fun j p hp => by cases hp⟩
  | n + 1, hall => by
    obtain ⟨R, hR, hrd⟩ := posrd_of n (fun j hj => hall j (by omega))
    obtain ⟨g, o, h, l, e, h0, h1, h2⟩ := hall n (by omega)
    refine ⟨R ++ [(h, l)], by rw [List.length_append, hR]; rfl, fun j p hp => ?_⟩
    rcases Nat.lt_trichotomy j R.length with hj | hj | hj
    · rw [List.getElem?_append_left hj] at hp; exact hrd j p hp
    · subst hj; rw [List.getElem?_append_right (Nat.le_refl _), Nat.sub_self] at hp; cases hp
      rw [hR]
      exact ⟨g, o, e, h0, h1, h2⟩
    · rw [List.getElem?_eq_none (by rw [List.length_append]; simp; omega)] at hp; cases hp
section
variable {H : Type} {enc : TypeId × Value → H} {W : World} {held : Bool}
theorem ops_arg {ts : List TypeId} {ds : List (DataW H)} (hsz : (DataW.weightsEach Try.prog ts ds).all (· ≤ reachBytes) = true) {d : DataW H} (j : Nat) (ht : ts[j]? = some 74) (hd : ds[j]? = some d)
    {base : Nat} {v : Value} {p : List MemPlace} (ok : Value.okWide Try.prog W .any base 74 v) (k : DataW.Trod enc Try.prog W 0 (fun _ => true) held 74 v d p) :
    ∃ ao n cap, v = .slice ao n cap ∧ n ≤ cap ∧ n ≤ 140737488355328 ∧ ∃ R : List (Int × Int), R.length = n ∧ PosRd W ao R := by
  obtain ⟨a0, len0, cap0, rfl⟩ := okWide_slice Try.underlying74 ok
  obtain ⟨fuel, hf⟩ := k
  rcases open_slice Try.underlying74 hf with ⟨hcs, hx⟩ | ⟨a, len, cap, m, f, D, Pl, hcs, hb, hl, hm, hmm, hx, hall⟩
  · have e : Value.slice a0 len0 cap0 = .slice none 0 0 := by simpa [Value.cells] using hcs
    exact ⟨none, 0, 0, e, Nat.le_refl _, by omega, [], rfl, fun j p hp => by cases hp⟩
  · have e : Value.slice a0 len0 cap0 = .slice (some a) len cap := by simpa [Value.cells] using hcs
    simp only [if_true] at hmm
    have c42 : Try.prog.cellsOf 24 = 2 := by kernel_rfl
    have c6 : Try.prog.cellsOf 22 = 1 := by kernel_rfl
    have hds : d = .slice ((List.range len).map D) ((List.range (m - len)).map fun j => D (len + j)) := congrArg Prod.fst hx
    subst hds
    have hsl := sized_slice hsz ht hd Try.underlying74
    have hby : Try.prog.bytesOf 24 = 16 := by kernel_rfl
    rw [hby] at hsl
    have hrb : reachBytes = 140737488351232 := rfl
    simp only [List.length_map, List.length_range] at hsl
    refine ⟨some a, len, cap, e, hl, by omega, posrd_of len fun i hi => ?_⟩
    obtain ⟨g, o, rfl⟩ : ∃ g o, a = ⟨g, o, none⟩ := by
      obtain ⟨cs', h1, h2⟩ := hall 0 (by omega)
      rw [Nat.zero_mul, add_zero, c42] at h1
      obtain ⟨hl2, hce⟩ := cells_each h1
      match cs', hl2 with
      | [u0, u1], _ =>
        have h7 := hce 0 (by omega)
        rw [add_zero] at h7
        simp only [List.getElem?_cons_zero] at h7
        exact no_spot h7
    obtain ⟨cs', h1, h2⟩ := hall i (by omega)
    rw [c42] at h1
    obtain ⟨hl2, hce⟩ := cells_each h1
    obtain ⟨y0, y1, n2, hy, _, t0, t1⟩ := Go.ChangeShapes.trod_struct2 Try.underlying24 h2
    match cs', hl2 with
    | [u0, u1], _ =>
      change DataW.trod enc Try.prog W 0 (fun _ => true) held n2 22 (([u0, u1].drop 0).take (Try.prog.cellsOf 22)) = some y0 at t0
      change DataW.trod enc Try.prog W 0 (fun _ => true) held n2 22 (([u0, u1].drop 1).take (Try.prog.cellsOf 22)) = some y1 at t1
      rw [c6] at t0 t1
      simp only [List.drop_zero, List.take_succ_cons, List.take_zero, List.drop_succ_cons] at t0 t1
      obtain ⟨x, e0, _, _⟩ := DataW.trod_int Try.underlying22 t0
      obtain ⟨y, e1, _, _⟩ := DataW.trod_int Try.underlying22 t1
      simp only [List.cons.injEq, and_true] at e0 e1
      subst e0 e1
      have q0 := hce 0 (by omega)
      have q1 := hce 1 (by omega)
      simp only [List.getElem?_cons_zero, List.getElem?_cons_succ] at q0 q1
      rw [add_zero, Addr.add_lit] at q0
      rw [Addr.add_lit, Addr.add_lit] at q1
      exact ⟨g, o, x, y, rfl, World.block_lt_of_cell? W _ q0, q0, q1⟩
end
end Go.Proofs.Ytokmchkoojeadaa
