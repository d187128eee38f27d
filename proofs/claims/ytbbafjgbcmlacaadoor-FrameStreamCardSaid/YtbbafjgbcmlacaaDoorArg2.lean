/- Arguments of depth: slices of a struct with bytes in it, of slices of bytes, of integers. -/
import Derived.Test.YtbbafjgbcmlacaaDoorArg
import Derived.DataReads
namespace Go.Proofs.YtbbafjgbcmlacaaDoor
open Go.ChangeShapes Go.WideShapes Go.ChangeAt Go.RowKit Go.Deep
set_option linter.unusedVariables false

/-- n operations of a script lie from ao on -/
def OpsRd (W : World) (ao : Option Addr) (n : Nat) : Prop :=
  ∀ i, i < n → ∃ g o kind bo m c ms, ao = some ⟨g, o, none⟩ ∧ g < W.heap.size ∧ W.cell? ⟨g, o + i * 2, none⟩ = some (.int .i64 kind) ∧ W.cell? ⟨g, o + i * 2 + 1, none⟩ = some (.slice bo m c) ∧
    ms.length = m ∧ m ≤ c ∧ c ≤ maxLen ∧ Rd W bo ms ∧ m ≤ 140737488351232
theorem OpsRd.below {W W' : World} {ao : Option Addr} {n : Nat} (h : OpsRd W ao n) (b : Below W.heap.size W W') : OpsRd W' ao n := fun i hi => by
  obtain ⟨g, o, kind, bo, m, c, ms, e, h1, h2, h3, h4, h5, h6, h7, h8⟩ := h i hi
  exact ⟨g, o, kind, bo, m, c, ms, e, Nat.lt_of_lt_of_le h1 b.size, (b.cell h1).trans h2, (b.cell h1).trans h3, h4, h5, h6, h7.below b, h8⟩
/-- n lists of bytes lie from ao on -/
def BodiesRd (W : World) (ao : Option Addr) (n : Nat) (L : Nat → List Nat) : Prop :=
  ∀ i, i < n → ∃ g o bo c, ao = some ⟨g, o, none⟩ ∧ g < W.heap.size ∧ W.cell? ⟨g, o + i, none⟩ = some (.slice bo (L i).length c) ∧ (L i).length ≤ c ∧ c ≤ maxLen ∧ Rd W bo (L i)
theorem BodiesRd.below {W W' : World} {ao : Option Addr} {n : Nat} {L : Nat → List Nat} (h : BodiesRd W ao n L) (b : Below W.heap.size W W') : BodiesRd W' ao n L := fun i hi => by
  obtain ⟨g, o, bo, c, e, h1, h2, h3, h4, h5⟩ := h i hi
  exact ⟨g, o, bo, c, e, Nat.lt_of_lt_of_le h1 b.size, (b.cell h1).trans h2, h3, h4, h5.below b⟩
/-- n integers lie from ao on -/
def IntsRd (W : World) (ao : Option Addr) (n : Nat) (L : Nat → Int) : Prop :=
  ∀ i, i < n → ∃ g o, ao = some ⟨g, o, none⟩ ∧ g < W.heap.size ∧ W.cell? ⟨g, o + i, none⟩ = some (.int .i64 (L i)) ∧ -9223372036854775808 ≤ L i ∧ L i ≤ 9223372036854775807
theorem IntsRd.below {W W' : World} {ao : Option Addr} {n : Nat} {L : Nat → Int} (h : IntsRd W ao n L) (b : Below W.heap.size W W') : IntsRd W' ao n L := fun i hi => by
  obtain ⟨g, o, e, h1, h2, h3⟩ := h i hi
  exact ⟨g, o, e, Nat.lt_of_lt_of_le h1 b.size, (b.cell h1).trans h2, h3⟩

theorem cells_each {w : World} {base : Nat} {a : Addr} {n : Nat} {cs : List Value} (h : w.cells? base a n = some cs) : cs.length = n ∧ ∀ i, i < n → w.cell? (a.add i) = cs[i]? := by
  unfold World.cells? at h
  split at h
  · constructor
    · have := Lib.mapM_length h; simpa using this
    · intro i hi
      obtain ⟨b, hb, hf⟩ := Lib.mapM_at h i i (by simp [hi])
      rw [hf, hb]
  · cases h
theorem add_zero (a : Addr) : a.add 0 = a := by unfold Addr.add; split <;> simp_all
theorem no_spot {a : Addr} {w : World} {v : Value} (h : w.cell? a = some v) : ∃ g o, a = ⟨g, o, none⟩ := by
  obtain ⟨b, off, spot⟩ := a
  have hspot : spot = none := by simpa using World.cell?_spot h
  subst hspot
  exact ⟨b, off, rfl⟩

section
variable {H : Type} {enc : TypeId × Value → H} {W : World} {held : Bool}
theorem ints_arg {ts : List TypeId} {ds : List (DataW H)} (hsz : (DataW.weightsEach Tryd.prog ts ds).all (· ≤ reachBytes) = true) {d : DataW H} (j : Nat) (ht : ts[j]? = some 50) (hd : ds[j]? = some d)
    {base : Nat} {v : Value} {p : List MemPlace} (ok : Value.okWide Tryd.prog W .any base 50 v) (k : DataW.Trod enc Tryd.prog W 0 (fun _ => true) held 50 v d p) :
    ∃ ao n cap L, v = .slice ao n cap ∧ n ≤ cap ∧ cap ≤ maxLen ∧ n ≤ 140737488351232 ∧ IntsRd W ao n L := by
  obtain ⟨a0, len0, cap0, rfl⟩ := okWide_slice Tryd.underlying50 ok
  obtain ⟨fuel, hf⟩ := k
  rcases open_ints Tryd.underlying50 Tryd.underlying3 (by kernel_rfl) hf with ⟨hcs, hx⟩ | ⟨a, len, cap, zs, hcs, hb, hl, hm, hz, hx, hcell, hwf⟩
  · have e : Value.slice a0 len0 cap0 = .slice none 0 0 := by simpa [Value.cells] using hcs
    exact ⟨none, 0, 0, fun _ => 0, e, Nat.le_refl _, Nat.zero_le _, Nat.zero_le _, fun i hi => by omega⟩
  · have e : Value.slice a0 len0 cap0 = .slice (some a) len cap := by simpa [Value.cells] using hcs
    simp only [if_true] at hz
    have hsl : len ≤ 140737488351232 := by
      have hd2 : d = _ := congrArg Prod.fst hx
      have h9 := sized_slice hsz ht (hd2 ▸ hd) Tryd.underlying50
      have hby : Tryd.prog.bytesOf 3 = 8 := by kernel_rfl
      rw [hby] at h9
      have e9 : reachBytes = 140737488351232 := rfl
      simp [lits] at h9
      omega
    refine ⟨some a, len, cap, fun i => zs.getD i 0, e, hl, hm, hsl, fun i hi => ?_⟩
    obtain ⟨b, off, rfl, hc⟩ := ints_at hcell (by omega)
    have h1 := hc i (by omega)
    have hzj : zs[i]? = some (zs.getD i 0) := by simp [List.getD, show i < zs.length by omega]
    have h2 := bounds_i64 (hwf _ (List.mem_of_getElem? hzj))
    exact ⟨b, off, rfl, World.block_lt_of_cell? W _ h1, h1, h2.1, h2.2⟩

theorem bodies_arg {base : Nat} {v : Value} {d : DataW H} {p : List MemPlace} (ok : Value.okWide Tryd.prog W .any base 49 v) (k : DataW.Trod enc Tryd.prog W 0 (fun _ => true) held 49 v d p) :
    ∃ ao n cap L, v = .slice ao n cap ∧ n ≤ cap ∧ cap ≤ maxLen ∧ BodiesRd W ao n L := by
  obtain ⟨a0, len0, cap0, rfl⟩ := okWide_slice Tryd.underlying49 ok
  obtain ⟨fuel, hf⟩ := k
  rcases open_slice Tryd.underlying49 hf with ⟨hcs, hx⟩ | ⟨a, len, cap, m, f, D, Pl, hcs, hb, hl, hm, hmm, hx, hall⟩
  · have e : Value.slice a0 len0 cap0 = .slice none 0 0 := by simpa [Value.cells] using hcs
    exact ⟨none, 0, 0, fun _ => [], e, Nat.le_refl _, Nat.zero_le _, fun i hi => by omega⟩
  · have e : Value.slice a0 len0 cap0 = .slice (some a) len cap := by simpa [Value.cells] using hcs
    simp only [if_true] at hmm
    have c22 : Tryd.prog.cellsOf 22 = 1 := by kernel_rfl
    have each : ∀ i, i < len → ∃ l : List Nat, ∃ g o bo c, some a = some ⟨g, o, none⟩ ∧ g < W.heap.size ∧ W.cell? ⟨g, o + i, none⟩ = some (.slice bo l.length c) ∧ l.length ≤ c ∧ c ≤ maxLen ∧ Rd W bo l := by
      intro i hi
      obtain ⟨g, o, rfl⟩ : ∃ g o, a = ⟨g, o, none⟩ := by
        obtain ⟨cs', h1, h2⟩ := hall 0 (by omega)
        rw [Nat.zero_mul, add_zero, c22] at h1
        obtain ⟨bo, n', c', l, rfl, _⟩ := bytes_of_trod h2
        have h7 := (cells_each h1).2 0 (by omega)
        rw [add_zero] at h7
        exact no_spot h7
      obtain ⟨cs', h1, h2⟩ := hall i (by omega)
      rw [c22, Nat.mul_one] at h1
      obtain ⟨bo, n', c', l, rfl, h3, h4, h5, h6, _⟩ := bytes_of_trod h2
      have h7 := (cells_each h1).2 0 (by omega)
      simp only [List.getElem?_cons_zero] at h7
      rw [add_zero, Addr.add_lit] at h7
      subst h3
      exact ⟨l, g, o, bo, c', rfl, World.block_lt_of_cell? W _ h7, h7, h4, h5, h6⟩
    refine ⟨some a, len, cap, fun i => if h : i < len then Classical.choose (each i h) else [], e, hl, hm, fun i hi => ?_⟩
    have := Classical.choose_spec (each i hi)
    simp only [dif_pos hi]
    exact this

theorem ops_arg {ts : List TypeId} {ds : List (DataW H)} (hsz : (DataW.weightsEach Tryd.prog ts ds).all (· ≤ reachBytes) = true) {d : DataW H} (j : Nat) (ht : ts[j]? = some 35) (hd : ds[j]? = some d)
    {base : Nat} {v : Value} {p : List MemPlace} (ok : Value.okWide Tryd.prog W .any base 35 v) (k : DataW.Trod enc Tryd.prog W 0 (fun _ => true) held 35 v d p) :
    ∃ ao n cap, v = .slice ao n cap ∧ n ≤ cap ∧ cap ≤ maxLen ∧ OpsRd W ao n := by
  obtain ⟨a0, len0, cap0, rfl⟩ := okWide_slice Tryd.underlying35 ok
  obtain ⟨fuel, hf⟩ := k
  rcases open_slice Tryd.underlying35 hf with ⟨hcs, hx⟩ | ⟨a, len, cap, m, f, D, Pl, hcs, hb, hl, hm, hmm, hx, hall⟩
  · have e : Value.slice a0 len0 cap0 = .slice none 0 0 := by simpa [Value.cells] using hcs
    exact ⟨none, 0, 0, e, Nat.le_refl _, Nat.zero_le _, fun i hi => by omega⟩
  · have e : Value.slice a0 len0 cap0 = .slice (some a) len cap := by simpa [Value.cells] using hcs
    simp only [if_true] at hmm
    have c42 : Tryd.prog.cellsOf 42 = 2 := by kernel_rfl
    have c22 : Tryd.prog.cellsOf 22 = 1 := by kernel_rfl
    have c3 : Tryd.prog.cellsOf 3 = 1 := by kernel_rfl
    refine ⟨some a, len, cap, e, hl, hm, fun i hi => ?_⟩
    obtain ⟨g, o, rfl⟩ : ∃ g o, a = ⟨g, o, none⟩ := by
      obtain ⟨cs', h1, h2⟩ := hall 0 (by omega)
      rw [Nat.zero_mul, add_zero, c42] at h1
      obtain ⟨hl2, hce⟩ := cells_each h1
      match cs', hl2 with
      | [u0, u1], _ =>
        have h7 := hce 0 (by omega)
        rw [add_zero] at h7
        simp only [List.getElem?_cons_zero] at h7
        exact no_spot h7
    obtain ⟨cs', h1, h2⟩ := hall i (by omega)
    rw [c42] at h1
    obtain ⟨hl2, hce⟩ := cells_each h1
    obtain ⟨y0, y1, n2, hy, _, t0, t1⟩ := trod_struct2 Tryd.underlying42 h2
    match cs', hl2 with
    | [u0, u1], _ =>
      change DataW.trod enc Tryd.prog W 0 (fun _ => true) held n2 3 (([u0, u1].drop 0).take (Tryd.prog.cellsOf 3)) = some y0 at t0
      change DataW.trod enc Tryd.prog W 0 (fun _ => true) held n2 22 (([u0, u1].drop 1).take (Tryd.prog.cellsOf 22)) = some y1 at t1
      rw [c3] at t0
      rw [c22] at t1
      simp only [List.drop_zero, List.take_succ_cons, List.take_zero, List.drop_succ_cons] at t0 t1
      obtain ⟨kind, e0, _, _⟩ := DataW.trod_int Tryd.underlying3 t0
      obtain ⟨bo, n', c', l, e1, h3, h4, h5, h6, h9⟩ := bytes_of_trod t1
      simp only [List.cons.injEq, and_true] at e0 e1
      subst e0
      subst e1
      have q0 := hce 0 (by omega)
      have q1 := hce 1 (by omega)
      simp only [List.getElem?_cons_zero, List.getElem?_cons_succ] at q0 q1
      rw [add_zero, Addr.add_lit] at q0
      rw [Addr.add_lit, Addr.add_lit] at q1
      refine ⟨g, o, kind, bo, n', c', l, rfl, World.block_lt_of_cell? W _ q0, q0, q1, h3, h4, h5, h6, ?_⟩
      rcases h9 with rfl | ⟨es, sp, e9, rfl⟩
      · omega
      · have hD : D i = .agg [y0.1, .slice es sp] := by
          have := congrArg Prod.fst hy
          simp only at this
          rw [this, e9]
        have hds : d = .slice ((List.range len).map D) ((List.range (m - len)).map fun j => D (len + j)) := congrArg Prod.fst hx
        have hmem : (es.length + sp.length) * Tryd.prog.bytesOf 5 ∈ DataW.weights Tryd.prog 35 d := by
          rw [hds]
          have u1 := Tryd.underlying35
          simp only [DataW.weights, u1, List.mem_cons, List.mem_append]
          refine .inr (.inl ?_)
          have hin : ∀ (l : List (DataW H)) (x : DataW H), x ∈ l → ∀ n ∈ DataW.weights Tryd.prog 42 x, n ∈ DataW.weightsAll Tryd.prog 42 l := by
            intro l
            induction l with
            | nil => intro x hx; cases hx
            | cons y r ih =>
              intro x hx n hn
              simp only [DataW.weightsAll, List.mem_append]
              rcases List.mem_cons.1 hx with rfl | hx
              · exact .inl hn
              · exact .inr (ih x hx n hn)
          refine hin _ (D i) (List.mem_map.2 ⟨i, by simp [hi], rfl⟩) _ ?_
          rw [hD]
          have u2 := Tryd.underlying42
          have u3 := Tryd.underlying22
          simp [DataW.weights, DataW.weightsEach, u2, u3]
        have := List.all_eq_true.1 hsz _ (DataW.weights_mem_each ht hd _ hmem)
        rw [byte_bytes] at this
        have e : reachBytes = 140737488351232 := rfl
        simp at this
        omega
end
end Go.Proofs.YtbbafjgbcmlacaaDoor
