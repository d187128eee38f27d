/- Arguments that are slices of numbers, and of decrees. -/
import Derived.Test.YtikeiocgnjdhbaaLd
import Derived.SizedLaws
import Derived.DataReads
import Derived.MakeChecks
import Derived.ChangeSlices
import Derived.Deep.Slices
import Derived.Deep.SlicePairs
import Derived.ChangeSame
import Derived.Lib.SmallJoins
namespace Go.Proofs.Ytikeiocgnjdhbaa
open Go.ChangeShapes Go.WideShapes Go.ChangeAt Go.RowKit Go.Deep
set_option linter.unusedVariables false
set_option linter.unusedSimpArgs false
set_option maxRecDepth 100000
theorem cells_each {w : World} {base : Nat} {a : Addr} {n : Nat} {cs : List Value} (h : w.cells? base a n = some cs) : cs.length = n ∧ ∀ i, i < n → w.cell? (a.add i) = cs[i]? := by
  unfold World.cells? at h
  split at h
  · constructor
    · have := Lib.mapM_length h; simpa using this
    · intro i hi
      obtain ⟨b, hb, hf⟩ := Lib.mapM_at h i i (by simp [hi])
      rw [hf, hb]
  · cases h
theorem add_zero (a : Addr) : a.add 0 = a := by unfold Addr.add; split <;> simp_all
theorem no_spot {a : Addr} {w : World} {v : Value} (h : w.cell? a = some v) : ∃ g o, a = ⟨g, o, none⟩ := by
  obtain ⟨b, off, spot⟩ := a
  have hspot : spot = none := by simpa using World.cell?_spot h
  subst hspot
  exact ⟨b, off, rfl⟩
/-- a slice reads as numbers of 32 bits -/
def IntsRd (W : World) (ao : Option Addr) (l : List Int) : Prop :=
  (∀ c ∈ l, 0 ≤ c ∧ c ≤ 4294967295) ∧ ∀ (j : Nat) (z : Int), l[j]? = some z → ∃ g o, ao = some ⟨g, o, none⟩ ∧ g < W.heap.size ∧ W.cell? ⟨g, o + j, none⟩ = some (.int .u32 z)
theorem IntsRd.below {W W' : World} {ao : Option Addr} {l : List Int} (h : IntsRd W ao l) (b : Below W.heap.size W W') : IntsRd W' ao l := ⟨h.1, fun j z hj => by
  obtain ⟨g, o, e, h0, h1⟩ := h.2 j z hj
  exact ⟨g, o, e, Nat.lt_of_lt_of_le h0 b.size, (b.cell h0).trans h1⟩⟩
/-- n decrees lie from ao on -/
def DcsRd (W : World) (ao : Option Addr) (n : Nat) : Prop := ∀ j, j < n → ∃ g o, ∃ D : Dc, ao = some ⟨g, o, none⟩ ∧ g < W.heap.size ∧ 0 ≤ D.cnt ∧ D.cnt ≤ 4294967295 ∧ W.rangeAt g (o + j * 7) D.cells.toList
theorem DcsRd.below {W W' : World} {ao : Option Addr} {n : Nat} (h : DcsRd W ao n) (b : Below W.heap.size W W') : DcsRd W' ao n := fun j hj => by
  obtain ⟨g, o, D, e, h0, h1, h2, h3⟩ := h j hj
  exact ⟨g, o, D, e, Nat.lt_of_lt_of_le h0 b.size, h1, h2, fun i v hv => (b.cell h0).trans (h3 i v hv)⟩
section
variable {H : Type} {enc : TypeId × Value → H} {W : World} {held : Bool}
theorem ints_of_trod {fuel : Nat} {cs0 : List Value} {d : DataW H} {p : List MemPlace} (h : DataW.trod enc Try.prog W 0 (fun _ => true) held fuel 51 cs0 = some (d, p)) :
    ∃ ao n cap l, cs0 = [.slice ao n cap] ∧ l.length = n ∧ n ≤ cap ∧ cap ≤ maxLen ∧ IntsRd W ao l ∧ (n = 0 ∨ ∃ elems spare, d = .slice elems spare ∧ elems.length = n) := by
  rcases open_ints Try.underlying51 Try.underlying23 (by kernel_rfl) h with ⟨hcs, hx⟩ | ⟨a, len, cap, zs, hcs, hb, hl, hm, hz, hx, hcell, hwf⟩
  · exact ⟨none, 0, 0, [], hcs, rfl, Nat.le_refl _, Nat.zero_le _, ⟨by simp, by simp⟩, .inl rfl⟩
  · simp only [if_true] at hz
    refine ⟨some a, len, cap, zs.take len, hcs, by simp; omega, hl, hm, ⟨?_, ?_⟩, .inr ⟨_, _, congrArg Prod.fst hx, by simp [lits]; omega⟩⟩
    · intro c hc
      exact bounds_u32 (hwf c (List.mem_of_mem_take hc))
    · intro j z hj
      obtain ⟨hj1, hj2⟩ := List.getElem?_eq_some_iff.1 hj
      rw [List.length_take] at hj1
      obtain ⟨b, off, rfl, hc⟩ : ∃ b off, a = ⟨b, off, none⟩ ∧ ∀ i, i < zs.length → W.cell? ⟨b, off + i, none⟩ = some (.int .u32 (zs.getD i 0)) := by
        have h0 := hcell 0 (by omega)
        rw [add_zero] at h0
        obtain ⟨g, o, rfl⟩ := no_spot h0
        refine ⟨g, o, rfl, fun i hi => ?_⟩
        have := hcell i hi
        rwa [Addr.add_lit] at this
      have h1 := hc j (by omega)
      refine ⟨b, off, rfl, World.block_lt_of_cell? W _ h1, ?_⟩
      rw [h1]
      rw [List.getElem_take] at hj2
      have hj3 : j < zs.length := by omega
      rw [← hj2, List.getD_eq_getElem?_getD, List.getElem?_eq_getElem hj3]
      rfl
theorem ints_arg {ts : List TypeId} {ds : List (DataW H)} (hsz : (DataW.weightsEach Try.prog ts ds).all (· ≤ reachBytes) = true) {d : DataW H} (j : Nat) (ht : ts[j]? = some 51) (hd : ds[j]? = some d)
    {base : Nat} {v : Value} {p : List MemPlace} (ok : Value.okWide Try.prog W .any base 51 v) (k : DataW.Trod enc Try.prog W 0 (fun _ => true) held 51 v d p) :
    ∃ ao n cap l, v = .slice ao n cap ∧ l.length = n ∧ n ≤ cap ∧ cap ≤ maxLen ∧ n ≤ 35184372088832 ∧ IntsRd W ao l := by
  obtain ⟨a0, len0, cap0, rfl⟩ := okWide_slice Try.underlying51 ok
  obtain ⟨fuel, hf⟩ := k
  obtain ⟨ao, n, cap, l, e, h1, h2, h3, h4, h5⟩ := ints_of_trod hf
  have e' : Value.slice a0 len0 cap0 = .slice ao n cap := by simpa [Value.cells] using e
  refine ⟨ao, n, cap, l, e', h1, h2, h3, ?_, h4⟩
  rcases h5 with rfl | ⟨elems, spare, rfl, rfl⟩
  · omega
  · have := sized_slice hsz ht hd Try.underlying51
    have hby : Try.prog.bytesOf 23 = 4 := by kernel_rfl
    rw [hby] at this
    have e : reachBytes = 140737488351232 := rfl
    omega
theorem one_at {l : List Value} {a : Nat} {v : Value} (h : (l.drop a).take 1 = [v]) : l[a]? = some v := by
  have h2 : ((l.drop a).take 1)[0]? = some v := by rw [h]; rfl
  rw [List.getElem?_take, if_pos (by omega), List.getElem?_drop] at h2
  exact h2
theorem two_at {l : List Value} {a : Nat} {u v : Value} (h : (l.drop a).take 2 = [u, v]) : l[a]? = some u ∧ l[a + 1]? = some v := by
  have h2 : ((l.drop a).take 2)[0]? = some u := by rw [h]; rfl
  have h3 : ((l.drop a).take 2)[1]? = some v := by rw [h]; rfl
  rw [List.getElem?_take, if_pos (by omega), List.getElem?_drop] at h2 h3
  exact ⟨h2, h3⟩
/-- an arc, by its reading -/
theorem arc_of {fuel : Nat} {cs : List Value} {x : DataW H × List MemPlace} (h : DataW.trod enc Try.prog W 0 (fun _ => true) held fuel 37 cs = some x) : ∃ a b, cs = [.int .i64 a, .int .i64 b] := by
  obtain ⟨y0, y1, n2, hy, hl, t0, t1⟩ := Go.ChangeShapes.trod_struct2 Try.underlying37 h
  have c42 : Try.prog.cellsOf 37 = 2 := by kernel_rfl
  have c6 : Try.prog.cellsOf 3 = 1 := by kernel_rfl
  rw [c42] at hl
  match cs, hl with
  | [u0, u1], _ =>
    change DataW.trod enc Try.prog W 0 (fun _ => true) held n2 3 (([u0, u1].drop 0).take (Try.prog.cellsOf 3)) = some y0 at t0
    change DataW.trod enc Try.prog W 0 (fun _ => true) held n2 3 (([u0, u1].drop 1).take (Try.prog.cellsOf 3)) = some y1 at t1
    rw [c6] at t0 t1
    simp only [List.drop_zero, List.take_succ_cons, List.take_zero, List.drop_succ_cons] at t0 t1
    obtain ⟨x, e0, _, _⟩ := DataW.trod_int Try.underlying3 t0
    obtain ⟨y, e1, _, _⟩ := DataW.trod_int Try.underlying3 t1
    simp only [List.cons.injEq, and_true] at e0 e1
    subst e0 e1
    exact ⟨x, y, rfl⟩
/-- a decree, by its reading -/
theorem dc_of {fuel : Nat} {cs : List Value} {x : DataW H × List MemPlace} (h : DataW.trod enc Try.prog W 0 (fun _ => true) held fuel 39 cs = some x) : ∃ D : Dc, cs = D.cells.toList ∧ 0 ≤ D.cnt ∧ D.cnt ≤ 4294967295 := by
  obtain ⟨xs, n, _, rfl, hl, hlen, hf⟩ := DataW.trod_struct Try.underlying39 h
  have c7 : Try.prog.cellsOf 39 = 7 := by kernel_rfl
  have cK : Try.prog.cellsOf 35 = 1 := by kernel_rfl
  have c1 : Try.prog.cellsOf 3 = 1 := by kernel_rfl
  have c4 : Try.prog.cellsOf 23 = 1 := by kernel_rfl
  have c2 : Try.prog.cellsOf 37 = 2 := by kernel_rfl
  rw [c7] at hl
  have hx6 : xs.length = 6 := by rw [hlen]; rfl
  match xs, hx6 with
  | [y0, y1, y2, y3, y4, y5], _ =>
    have t0 := hf 0 _ rfl
    have t1 := hf 1 _ rfl
    have t2 := hf 2 _ rfl
    have t3 := hf 3 _ rfl
    have t4 := hf 4 _ rfl
    have t5 := hf 5 _ rfl
    change DataW.trod enc Try.prog W 0 (fun _ => true) held n 35 ((cs.drop 0).take (Try.prog.cellsOf 35)) = some y0 at t0
    change DataW.trod enc Try.prog W 0 (fun _ => true) held n 3 ((cs.drop 1).take (Try.prog.cellsOf 3)) = some y1 at t1
    change DataW.trod enc Try.prog W 0 (fun _ => true) held n 3 ((cs.drop 2).take (Try.prog.cellsOf 3)) = some y2 at t2
    change DataW.trod enc Try.prog W 0 (fun _ => true) held n 37 ((cs.drop 3).take (Try.prog.cellsOf 37)) = some y3 at t3
    change DataW.trod enc Try.prog W 0 (fun _ => true) held n 23 ((cs.drop 5).take (Try.prog.cellsOf 23)) = some y4 at t4
    change DataW.trod enc Try.prog W 0 (fun _ => true) held n 23 ((cs.drop 6).take (Try.prog.cellsOf 23)) = some y5 at t5
    rw [cK] at t0
    rw [c1] at t1 t2
    rw [c2] at t3
    rw [c4] at t4 t5
    obtain ⟨k, e0, _, _⟩ := DataW.trod_int Try.underlying35 t0
    obtain ⟨nd, e1, _, _⟩ := DataW.trod_int Try.underlying3 t1
    obtain ⟨b, e2, _, _⟩ := DataW.trod_int Try.underlying3 t2
    obtain ⟨f, z, e3⟩ := arc_of t3
    obtain ⟨c, e4, _, wc⟩ := DataW.trod_int Try.underlying23 t4
    obtain ⟨s, e5, _, ws⟩ := DataW.trod_int Try.underlying23 t5
    refine ⟨⟨k, nd, b, f, z, c, s⟩, ?_, (bounds_u32 wc).1, (bounds_u32 wc).2⟩
    match cs, hl with
    | [u0, u1, u2, u3, u4, u5, u6], _ =>
      have h0 := one_at e0; have h1 := one_at e1; have h2 := one_at e2; have h3 := two_at e3; have h4 := one_at e4; have h5 := one_at e5
      simp at h0 h1 h2 h3 h4 h5
      obtain ⟨h3, h6⟩ := h3
      subst h0 h1 h2 h3 h4 h5 h6
      rfl
theorem ops_arg {ts : List TypeId} {ds : List (DataW H)} (hsz : (DataW.weightsEach Try.prog ts ds).all (· ≤ reachBytes) = true) {d : DataW H} (j : Nat) (ht : ts[j]? = some 22) (hd : ds[j]? = some d)
    {base : Nat} {v : Value} {p : List MemPlace} (ok : Value.okWide Try.prog W .any base 22 v) (k : DataW.Trod enc Try.prog W 0 (fun _ => true) held 22 v d p) :
    ∃ ao n cap, v = .slice ao n cap ∧ n ≤ cap ∧ n ≤ 140737488355328 ∧ DcsRd W ao n := by
  obtain ⟨a0, len0, cap0, rfl⟩ := okWide_slice Try.underlying22 ok
  obtain ⟨fuel, hf⟩ := k
  rcases open_slice Try.underlying22 hf with ⟨hcs, hx⟩ | ⟨a, len, cap, m, f, D, Pl, hcs, hb, hl, hm, hmm, hx, hall⟩
  · have e : Value.slice a0 len0 cap0 = .slice none 0 0 := by simpa [Value.cells] using hcs
    exact ⟨none, 0, 0, e, Nat.le_refl _, by omega, fun j hj => by omega⟩
  · have e : Value.slice a0 len0 cap0 = .slice (some a) len cap := by simpa [Value.cells] using hcs
    simp only [if_true] at hmm
    have c7 : Try.prog.cellsOf 39 = 7 := by kernel_rfl
    have hds : d = .slice ((List.range len).map D) ((List.range (m - len)).map fun j => D (len + j)) := congrArg Prod.fst hx
    subst hds
    have hsl := sized_slice hsz ht hd Try.underlying22
    have hby : 1 ≤ Try.prog.bytesOf 39 := of_decide_eq_true (by kernel_rfl)
    have hrb : reachBytes = 140737488351232 := rfl
    simp only [List.length_map, List.length_range] at hsl
    refine ⟨some a, len, cap, e, hl, ?_, fun i hi => ?_⟩
    · have : (len + (m - len)) * 1 ≤ (len + (m - len)) * Try.prog.bytesOf 39 := Nat.mul_le_mul_left _ hby
      omega
    · obtain ⟨cs', h1, h2⟩ := hall i (by omega)
      rw [c7] at h1
      obtain ⟨hl2, hce⟩ := cells_each h1
      obtain ⟨g, o, rfl⟩ : ∃ g o, a = ⟨g, o, none⟩ := by
        obtain ⟨cs0, h3, _⟩ := hall 0 (by omega)
        rw [Nat.zero_mul, add_zero, c7] at h3
        obtain ⟨hl3, hc3⟩ := cells_each h3
        have h7 := hc3 0 (by omega)
        rw [add_zero, List.getElem?_eq_getElem (by omega)] at h7
        exact no_spot h7
      obtain ⟨Dc0, hcs2, w0, w1⟩ := dc_of h2
      subst hcs2
      have hrange : W.rangeAt g (o + i * 7) Dc0.cells.toList := fun j v hv => by
        have hj := (List.getElem?_eq_some_iff.1 hv).1
        have h8 := hce j (by omega)
        rw [Addr.add_lit, Addr.add_lit, hv] at h8
        exact h8
      have q0 := hrange 0 _ rfl
      exact ⟨g, o, Dc0, rfl, World.block_lt_of_cell? W _ q0, w0, w1, hrange⟩
end
end Go.Proofs.Ytikeiocgnjdhbaa
