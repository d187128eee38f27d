/- A script's op lies in cells of one value each: its copies too. -/
import Derived.Test.YtbjcmomicjdepaaArg
namespace Go.Proofs.Ytbjcmomicjdepaa
open Go.ChangeShapes Go.WideShapes Go.ChangeAt Go.RowKit Go.Deep
set_option linter.unusedVariables false
set_option linter.unusedSimpArgs false
set_option linter.unusedSectionVars false
set_option maxRecDepth 100000
section
variable {H : Type} {enc : TypeId × Value → H} {held : Bool} {W : World}
theorem slice_one {t e : TypeId} {fuel : Nat} {u : Value} {x : DataW H × List MemPlace} (ht : Try.prog.underlying t = some (.slice e)) (h : DataW.trod enc Try.prog W 0 (fun _ => true) held fuel t [u] = some x) : u.oneCell' = true := by
  obtain ⟨d, p⟩ := x
  rcases open_slice ht h with ⟨hcs, _⟩ | ⟨a, len, cap, m, f, D, Pl, hcs, _⟩
  · simp only [List.cons.injEq, and_true] at hcs
    subst hcs; rfl
  · simp only [List.cons.injEq, and_true] at hcs
    subst hcs; rfl
theorem copy_ones {fuel : Nat} {cs : List Value} {x : DataW H × List MemPlace} (h : DataW.trod enc Try.prog W 0 (fun _ => true) held fuel 42 cs = some x) : ∀ v ∈ cs, v.oneCell' = true := by
  obtain ⟨xs, n2, _, _, hl, hlen, hf⟩ := DataW.trod_struct Try.underlying42 h
  obtain ⟨u0, u1, u2, u3, u4, u5, u6, u7, u8, u9, rfl⟩ := list10 cs (hl.trans (by kernel_rfl))
  obtain ⟨y0, y1, y2, y3, y4, y5, y6, rfl⟩ := list7 xs hlen
  have t0 : DataW.trod enc Try.prog W 0 (fun _ => true) held n2 39 [u0] = some y0 := hf 0 _ rfl
  have t1 : DataW.trod enc Try.prog W 0 (fun _ => true) held n2 22 [u1] = some y1 := hf 1 _ rfl
  have t2 : DataW.trod enc Try.prog W 0 (fun _ => true) held n2 22 [u2] = some y2 := hf 2 _ rfl
  have t3 : DataW.trod enc Try.prog W 0 (fun _ => true) held n2 23 [u3] = some y3 := hf 3 _ rfl
  have t4 : DataW.trod enc Try.prog W 0 (fun _ => true) held n2 40 [u4] = some y4 := hf 4 _ rfl
  have t5 : DataW.trod enc Try.prog W 0 (fun _ => true) held n2 24 [u5, u6, u7, u8] = some y5 := hf 5 _ rfl
  have t6 : DataW.trod enc Try.prog W 0 (fun _ => true) held n2 34 [u9] = some y6 := hf 6 _ rfl
  obtain ⟨a0, e0, _, _⟩ := DataW.trod_int Try.underlying39 t0
  obtain ⟨a1, e1, _, _⟩ := DataW.trod_int Try.underlying22 t1
  obtain ⟨a2, e2, _, _⟩ := DataW.trod_int Try.underlying22 t2
  have o3 := slice_one Try.underlying23 t3
  have o4 := slice_one Try.underlying40 t4
  have o9 := slice_one Try.underlying34 t6
  obtain ⟨z0, z1, z2, z3, n, _, s0, s1, s2, s3⟩ := trod_array4 Try.underlying24 (by kernel_rfl) t5
  obtain ⟨v0, f0, _, _⟩ := DataW.trod_int Try.underlying22 s0
  obtain ⟨v1, f1, _, _⟩ := DataW.trod_int Try.underlying22 s1
  obtain ⟨v2, f2, _, _⟩ := DataW.trod_int Try.underlying22 s2
  obtain ⟨v3, f3, _, _⟩ := DataW.trod_int Try.underlying22 s3
  simp only [List.cons.injEq, and_true] at e0 e1 e2 f0 f1 f2 f3
  subst e0 e1 e2 f0 f1 f2 f3
  intro v hv
  simp only [List.mem_cons, List.not_mem_nil, or_false] at hv
  rcases hv with rfl | rfl | rfl | rfl | rfl | rfl | rfl | rfl | rfl | rfl
  all_goals first | rfl | exact o3 | exact o4 | exact o9
theorem copies_ones {fuel : Nat} {cs : List Value} {x : DataW H × List MemPlace} (h : DataW.trod enc Try.prog W 0 (fun _ => true) held fuel 43 cs = some x) : ∀ v ∈ cs, v.oneCell' = true := by
  obtain ⟨xs, m, _, _, hl, hlen, hf⟩ := DataW.trod_array Try.underlying43 h
  have c10 : Try.prog.cellsOf 42 = 10 := by kernel_rfl
  have c40 : Try.prog.cellsOf 43 = 40 := by kernel_rfl
  rw [c40] at hl
  rw [c10] at hf
  obtain ⟨y0, y1, y2, y3, rfl⟩ := list4 xs hlen
  intro v hv
  obtain ⟨j, hj⟩ := List.getElem?_of_mem hv
  have hj40 : j < 40 := hl ▸ (List.getElem?_eq_some_iff.1 hj).1
  have hm : v ∈ (cs.drop (j / 10 * 10)).take 10 := by
    refine List.mem_of_getElem? (i := j % 10) ?_
    rw [List.getElem?_take, if_pos (by omega), List.getElem?_drop, show j / 10 * 10 + j % 10 = j by omega]
    exact hj
  have hq : j / 10 < 4 := by omega
  obtain ⟨y, hy⟩ : ∃ y, [y0, y1, y2, y3][j / 10]? = some y := ⟨_, List.getElem?_eq_getElem (by simpa using hq)⟩
  exact copy_ones ((hf (j / 10) hq).trans hy) v hm
theorem op_ones {fuel : Nat} {cs : List Value} {x : DataW H × List MemPlace} (h : DataW.trod enc Try.prog W 0 (fun _ => true) held fuel 45 cs = some x) : ∀ v ∈ cs, v.oneCell' = true := by
  obtain ⟨kind, bk, rp, of, inc, is, l, s, rest, ho⟩ := op_of h
  obtain ⟨xs, n, _, _, hl, hlen, hf⟩ := DataW.trod_struct Try.underlying45 h
  obtain ⟨y0, y1, y2, y3, y4, y5, y6, y7, rfl⟩ := list8 xs hlen
  have hlr := ho.len
  have hcs := ho.eq
  subst hcs
  have t7 : DataW.trod enc Try.prog W 0 (fun _ => true) held n 43 (rest.take 40) = some y7 := hf 7 _ rfl
  rw [List.take_of_length_le (by omega)] at t7
  intro v hv
  simp only [Lk.list, List.mem_cons, List.mem_append, List.not_mem_nil, or_false] at hv
  rcases hv with rfl | rfl | rfl | rfl | rfl | rfl | hv | hv
  · rfl
  · rfl
  · rfl
  · rfl
  · rfl
  · rfl
  · rcases hv with rfl | rfl | rfl | rfl | rfl | rfl | rfl | rfl | rfl | rfl | rfl | rfl <;> rfl
  · exact copies_ones t7 v hv
/-- OpsRd, and each cell is one value -/
def OpsRd1 (W : World) (ao : Option Addr) (n : Nat) : Prop := ∀ q, q < n → ∃ (g o : Nat) (oc : List Value) (kind bk rp of inc : Int) (is : Bool) (l : Lk) (s : Sd) (rest : List Value), ao = some ⟨g, o, none⟩ ∧ g < W.heap.size ∧ W.rangeAt g (o + q * 58) oc ∧ OpIs W oc kind bk rp of inc is l s rest ∧ ∀ v ∈ oc, v.oneCell' = true
theorem ops_arg1 {ts : List TypeId} {ds : List (DataW H)} (hsz : (DataW.weightsEach Try.prog ts ds).all (· ≤ reachBytes) = true) {d : DataW H} (j : Nat) (ht : ts[j]? = some 29) (hd : ds[j]? = some d)
    {base : Nat} {v : Value} {p : List MemPlace} (ok : Value.okWide Try.prog W .any base 29 v) (k : DataW.Trod enc Try.prog W 0 (fun _ => true) held 29 v d p) :
    ∃ ao n cap, v = .slice ao n cap ∧ n ≤ cap ∧ n ≤ 140737488355328 ∧ OpsRd1 W ao n := by
  obtain ⟨a0, len0, cap0, rfl⟩ := okWide_slice Try.underlying29 ok
  obtain ⟨fuel, hf⟩ := k
  rcases open_slice Try.underlying29 hf with ⟨hcs, hx⟩ | ⟨a, len, cap, m, f, D, Pl, hcs, hb, hl, hm, hmm, hx, hall⟩
  · have e : Value.slice a0 len0 cap0 = .slice none 0 0 := by simpa [Value.cells] using hcs
    exact ⟨none, 0, 0, e, Nat.le_refl _, by omega, fun i hi => by omega⟩
  · have e : Value.slice a0 len0 cap0 = .slice (some a) len cap := by simpa [Value.cells] using hcs
    simp only [if_true] at hmm
    have c58 : Try.prog.cellsOf 45 = 58 := by kernel_rfl
    have hds : d = .slice ((List.range len).map D) ((List.range (m - len)).map fun j => D (len + j)) := congrArg Prod.fst hx
    refine ⟨some a, len, cap, e, hl, ?_, fun i hi => ?_⟩
    · subst hds
      have hsl := sized_slice hsz ht hd Try.underlying29
      have hby : 1 ≤ Try.prog.bytesOf 45 := of_decide_eq_true (by kernel_rfl)
      have hrb : reachBytes = 140737488351232 := rfl
      simp only [List.length_map, List.length_range] at hsl
      have : (len + (m - len)) * 1 ≤ (len + (m - len)) * Try.prog.bytesOf 45 := Nat.mul_le_mul_left _ hby
      omega
    · obtain ⟨cs', h1, h2⟩ := hall i (by omega)
      rw [c58] at h1
      obtain ⟨hl2, hce⟩ := cells_each h1
      obtain ⟨g, o, rfl⟩ : ∃ g o, a = ⟨g, o, none⟩ := by
        obtain ⟨cs0, h3, _⟩ := hall 0 (by omega)
        rw [Nat.zero_mul, add_zero, c58] at h3
        obtain ⟨hl3, hc3⟩ := cells_each h3
        have h7 := hc3 0 (by omega)
        rw [add_zero, List.getElem?_eq_getElem (by omega)] at h7
        exact no_spot h7
      have hrange : W.rangeAt g (o + i * 58) cs' := fun j v hv => by
        have hj := (List.getElem?_eq_some_iff.1 hv).1
        have h8 := hce j (by omega)
        rw [Addr.add_lit, Addr.add_lit, hv] at h8
        exact h8
      have q0 := hce 0 (by omega)
      rw [List.getElem?_eq_getElem (by omega), add_zero, Addr.add_lit] at q0
      obtain ⟨kind, bk, rp, of, inc, is, l, s, rest, ho⟩ := op_of h2
      exact ⟨g, o, cs', kind, bk, rp, of, inc, is, l, s, rest, rfl, World.block_lt_of_cell? W _ q0, hrange, ho, op_ones h2⟩
end
end Go.Proofs.Ytbjcmomicjdepaa
