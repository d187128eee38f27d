/- Arguments: bytes; the steps of a script. -/
import Derived.Test.YthanjfnpohhebaaBs
import Derived.SizedLaws
import Derived.DataReads
import Derived.MakeChecks
import Derived.Deep.Slices
import Derived.Deep.SlicePairs
import Derived.Deep.Strs
import Derived.Lib.SmallJoins
namespace Go.Proofs.Ythanjfnpohhebaa
open Go.ChangeShapes Go.WideShapes Go.ChangeAt Go.RowKit Go.Deep
set_option linter.unusedVariables false

theorem byte_cells : Try.prog.cellsOf 5 = 1 := by kernel_rfl
theorem byte_bytes : Try.prog.bytesOf 5 = 1 := by kernel_rfl

section
variable {H : Type} {enc : TypeId × Value → H} {W : World} {held : Bool}
/-- a slice of bytes by its reading, whatever is read -/
theorem bytes_of_trod {fuel : Nat} {cs0 : List Value} {d : DataW H} {p : List MemPlace} (h : DataW.trod enc Try.prog W 0 (fun _ => true) held fuel 39 cs0 = some (d, p)) :
    ∃ ao n cap l, cs0 = [.slice ao n cap] ∧ l.length = n ∧ n ≤ cap ∧ cap ≤ maxLen ∧ Rd W ao l ∧ (n = 0 ∨ ∃ elems spare, d = .slice elems spare ∧ elems.length = n) := by
  rcases open_ints Try.underlying39 Try.underlying5 byte_cells h with ⟨hcs, hx⟩ | ⟨a, len, cap, zs, hcs, hb, hl, hm, hz, hx, hcell, hwf⟩
  · exact ⟨none, 0, 0, [], hcs, rfl, Nat.le_refl _, Nat.zero_le _, Rd.nil _ _, .inl rfl⟩
  · simp only [if_true] at hz
    have hby : ∀ z ∈ zs, 0 ≤ z ∧ z < 256 := fun z hz => by have := bounds_u8 (hwf z hz); omega
    refine ⟨some a, len, cap, (zs.take len).map Int.toNat, hcs, by simp; omega, hl, hm, ⟨?_, ?_⟩, .inr ⟨_, _, congrArg Prod.fst hx, by simp [lits]; omega⟩⟩
    · intro c hc
      obtain ⟨z, hz1, rfl⟩ := List.mem_map.1 hc
      have := hby z (List.mem_of_mem_take hz1)
      omega
    · intro j hj
      simp at hj
      obtain ⟨b, off, rfl, hc⟩ := ints_at hcell (by omega)
      have h1 := hc j (by omega)
      refine ⟨b, off, rfl, World.block_lt_of_cell? W _ h1, ?_⟩
      rw [h1]
      have hzj : zs[j]? = some (zs.getD j 0) := by simp [List.getD, show j < zs.length by omega]
      have h2 := hby (zs.getD j 0) (List.mem_of_getElem? hzj)
      have e : bt ((zs.take len).map Int.toNat) j = (zs.getD j 0).toNat := by
        unfold bt
        rw [List.getD_eq_getElem?_getD, List.getElem?_map, List.getElem?_take, if_pos (by omega), hzj]
        rfl
      rw [e]
      unfold u8v
      rw [Int.toNat_of_nonneg h2.1]
theorem bytes_arg {base : Nat} {v : Value} {d : DataW H} {p : List MemPlace} (ok : Value.okWide Try.prog W .any base 39 v) (k : DataW.Trod enc Try.prog W 0 (fun _ => true) held 39 v d p) :
    ∃ ao n cap l, v = .slice ao n cap ∧ l.length = n ∧ n ≤ cap ∧ cap ≤ maxLen ∧ Rd W ao l ∧ (n = 0 ∨ ∃ elems spare, d = .slice elems spare ∧ elems.length = n) := by
  obtain ⟨a0, len0, cap0, rfl⟩ := okWide_slice Try.underlying39 ok
  obtain ⟨fuel, hf⟩ := k
  obtain ⟨ao, n, cap, l, e, h⟩ := bytes_of_trod hf
  have e' : Value.slice a0 len0 cap0 = .slice ao n cap := by simpa [Value.cells] using e
  exact ⟨ao, n, cap, l, e', h⟩
theorem ints_arg {ts : List TypeId} {ds : List (DataW H)} (hsz : (DataW.weightsEach Try.prog ts ds).all (· ≤ reachBytes) = true) {d : DataW H} (j : Nat) (ht : ts[j]? = some 39) (hd : ds[j]? = some d)
    {base : Nat} {v : Value} {p : List MemPlace} (ok : Value.okWide Try.prog W .any base 39 v) (k : DataW.Trod enc Try.prog W 0 (fun _ => true) held 39 v d p) :
    ∃ ao n cap l, v = .slice ao n cap ∧ l.length = n ∧ n ≤ cap ∧ cap ≤ maxLen ∧ n ≤ 140737488351232 ∧ Rd W ao l := by
  obtain ⟨ao, n, cap, l, e, h1, h2, h3, h4, h5⟩ := bytes_arg ok k
  refine ⟨ao, n, cap, l, e, h1, h2, h3, ?_, h4⟩
  rcases h5 with rfl | ⟨elems, spare, rfl, rfl⟩
  · omega
  · have := sized_slice hsz ht hd Try.underlying39
    rw [byte_bytes] at this
    have e : reachBytes = 140737488351232 := rfl
    omega
end

/-- a step of a script -/
structure Op where
  kind : Int
  fr : Int
  to : Int
  at_ : Int
  id : Nat
  raw : Bool
  by_ : Nat
  ao : Option Addr
  cap : Nat
  data : List Nat
abbrev Op.cells (p : Op) : Array Value := #[.int .i64 p.kind, .int .i64 p.fr, .int .i64 p.to, .int .i64 p.at_, .int .u64 (p.id : Int), .bool p.raw, .int .u8 (p.by_ : Int), .slice p.ao p.data.length p.cap]
abbrev okI (c : Int) : Prop := -9223372036854775808 ≤ c ∧ c ≤ 9223372036854775807
structure Op.Ok (W : World) (p : Op) : Prop where
  kind : okI p.kind
  fr : okI p.fr
  to : okI p.to
  at_ : okI p.at_
  id : p.id < 18446744073709551616
  by_ : p.by_ < 256
  rd : Rd W p.ao p.data
  cap : p.data.length ≤ p.cap
  max : p.cap ≤ maxLen
  size : p.data.length ≤ 140737488351232
/-- n steps of a script lie from ao on -/
def OpsRd (W : World) (ao : Option Addr) (n : Nat) : Prop :=
  ∀ i, i < n → ∃ g o p, ao = some ⟨g, o, none⟩ ∧ g < W.heap.size ∧ (∀ q, q < 8 → W.cell? ⟨g, o + i * 8 + q, none⟩ = (Op.cells p)[q]?) ∧ Op.Ok W p
theorem Op.Ok.below {W W' : World} {p : Op} (h : Op.Ok W p) (b : Below W.heap.size W W') : Op.Ok W' p := ⟨h.kind, h.fr, h.to, h.at_, h.id, h.by_, h.rd.below b, h.cap, h.max, h.size⟩
theorem OpsRd.below {W W' : World} {ao : Option Addr} {n : Nat} (h : OpsRd W ao n) (b : Below W.heap.size W W') : OpsRd W' ao n := fun i hi => by
  obtain ⟨g, o, p, e, h0, h1, h2⟩ := h i hi
  exact ⟨g, o, p, e, Nat.lt_of_lt_of_le h0 b.size, fun q hq => (b.cell h0).trans (h1 q hq), h2.below b⟩

theorem cells_each {w : World} {base : Nat} {a : Addr} {n : Nat} {cs : List Value} (h : w.cells? base a n = some cs) : cs.length = n ∧ ∀ i, i < n → w.cell? (a.add i) = cs[i]? := by
  unfold World.cells? at h
  split at h
  · constructor
    · have := Lib.mapM_length h; simpa using this
    · intro i hi
      obtain ⟨b, hb, hf⟩ := Lib.mapM_at h i i (by simp [hi])
      rw [hf, hb]
  · cases h
theorem add_zero (a : Addr) : a.add 0 = a := by unfold Addr.add; split <;> simp_all
theorem no_spot {a : Addr} {w : World} {v : Value} (h : w.cell? a = some v) : ∃ g o, a = ⟨g, o, none⟩ := by
  obtain ⟨b, off, spot⟩ := a
  have hspot : spot = none := by simpa using World.cell?_spot h
  subst hspot
  exact ⟨b, off, rfl⟩

section
variable {H : Type} {enc : TypeId × Value → H} {W : World} {held : Bool}
theorem weights_in (P : Program) (t : TypeId) : ∀ (l : List (DataW H)) (x : DataW H), x ∈ l → ∀ n ∈ DataW.weights P t x, n ∈ DataW.weightsAll P t l := by
  intro l
  induction l with
  | nil => intro x hx; cases hx
  | cons y r ih =>
    intro x hx n hn
    simp only [DataW.weightsAll, List.mem_append]
    rcases List.mem_cons.1 hx with rfl | hx
    · exact .inl hn
    · exact .inr (ih x hx n hn)
theorem ops_arg {ts : List TypeId} {ds : List (DataW H)} (hsz : (DataW.weightsEach Try.prog ts ds).all (· ≤ reachBytes) = true) {d : DataW H} (j : Nat) (ht : ts[j]? = some 22) (hd : ds[j]? = some d)
    {base : Nat} {v : Value} {p : List MemPlace} (ok : Value.okWide Try.prog W .any base 22 v) (k : DataW.Trod enc Try.prog W 0 (fun _ => true) held 22 v d p) :
    ∃ ao n cap, v = .slice ao n cap ∧ n ≤ cap ∧ cap ≤ maxLen ∧ OpsRd W ao n := by
  obtain ⟨a0, len0, cap0, rfl⟩ := okWide_slice Try.underlying22 ok
  obtain ⟨fuel, hf⟩ := k
  rcases open_slice Try.underlying22 hf with ⟨hcs, hx⟩ | ⟨a, len, cap, m, f, D, Pl, hcs, hb, hl, hm, hmm, hx, hall⟩
  · have e : Value.slice a0 len0 cap0 = .slice none 0 0 := by simpa [Value.cells] using hcs
    exact ⟨none, 0, 0, e, Nat.le_refl _, Nat.zero_le _, fun i hi => by omega⟩
  · have e : Value.slice a0 len0 cap0 = .slice (some a) len cap := by simpa [Value.cells] using hcs
    simp only [if_true] at hmm
    have c41 : Try.prog.cellsOf 41 = 8 := by kernel_rfl
    refine ⟨some a, len, cap, e, hl, hm, fun i hi => ?_⟩
    obtain ⟨g, o, rfl⟩ : ∃ g o, a = ⟨g, o, none⟩ := by
      obtain ⟨cs', h1, h2⟩ := hall 0 (by omega)
      rw [Nat.zero_mul, add_zero, c41] at h1
      obtain ⟨hl2, hce⟩ := cells_each h1
      have h7 := hce 0 (by omega)
      rw [add_zero, List.getElem?_eq_getElem (by omega)] at h7
      exact no_spot h7
    obtain ⟨cs', h1, h2⟩ := hall i (by omega)
    rw [c41] at h1
    obtain ⟨hl2, hce⟩ := cells_each h1
    obtain ⟨xs, n2, _, hy, _, hlen, hf2⟩ := DataW.trod_struct Try.underlying41 h2
    obtain ⟨u0, u1, u2, u3, u4, u5, u6, u7, rfl⟩ := list8 cs' hl2
    obtain ⟨y0, y1, y2, y3, y4, y5, y6, y7, rfl⟩ := list8 xs hlen
    have t0 : DataW.trod enc Try.prog W 0 (fun _ => true) held n2 3 [u0] = some y0 := hf2 0 _ rfl
    have t1 : DataW.trod enc Try.prog W 0 (fun _ => true) held n2 3 [u1] = some y1 := hf2 1 _ rfl
    have t2 : DataW.trod enc Try.prog W 0 (fun _ => true) held n2 3 [u2] = some y2 := hf2 2 _ rfl
    have t3 : DataW.trod enc Try.prog W 0 (fun _ => true) held n2 3 [u3] = some y3 := hf2 3 _ rfl
    have t4 : DataW.trod enc Try.prog W 0 (fun _ => true) held n2 30 [u4] = some y4 := hf2 4 _ rfl
    have t5 : DataW.trod enc Try.prog W 0 (fun _ => true) held n2 4 [u5] = some y5 := hf2 5 _ rfl
    have t6 : DataW.trod enc Try.prog W 0 (fun _ => true) held n2 5 [u6] = some y6 := hf2 6 _ rfl
    have t7 : DataW.trod enc Try.prog W 0 (fun _ => true) held n2 39 [u7] = some y7 := hf2 7 _ rfl
    obtain ⟨kind, e0, _, w0⟩ := DataW.trod_int Try.underlying3 t0
    obtain ⟨fr, e1, _, w1⟩ := DataW.trod_int Try.underlying3 t1
    obtain ⟨to, e2, _, w2⟩ := DataW.trod_int Try.underlying3 t2
    obtain ⟨at_, e3, _, w3⟩ := DataW.trod_int Try.underlying3 t3
    obtain ⟨id, e4, _, w4⟩ := DataW.trod_int Try.underlying30 t4
    obtain ⟨raw, e5, _⟩ := DataW.trod_bool Try.underlying4 t5
    obtain ⟨by_, e6, _, w6⟩ := DataW.trod_int Try.underlying5 t6
    obtain ⟨bo, n', c', l, e7, h3, h4, h5, h6, h9⟩ := bytes_of_trod t7
    simp only [List.cons.injEq, and_true] at e0 e1 e2 e3 e4 e5 e6 e7
    subst e0 e1 e2 e3 e4 e5 e6 e7 h3
    have hx4 := bounds_u64 w4
    have hx6 := bounds_u8 w6
    obtain ⟨k, rfl⟩ : ∃ k : Nat, id = (k : Int) := ⟨id.toNat, by omega⟩
    obtain ⟨b, rfl⟩ : ∃ k : Nat, by_ = (k : Int) := ⟨by_.toNat, by omega⟩
    have hc : ∀ q, q < 8 → W.cell? ⟨g, o + i * 8 + q, none⟩ = (Op.cells ⟨kind, fr, to, at_, k, raw, b, bo, c', l⟩)[q]? := fun q hq => by
      have := hce q hq
      rw [Addr.add_lit, Addr.add_lit] at this
      rw [this, ← Array.getElem?_toList]
    have hg : g < W.heap.size := World.block_lt_of_cell? W _ (hc 0 (by omega))
    refine ⟨g, o, ⟨kind, fr, to, at_, k, raw, b, bo, c', l⟩, rfl, hg, hc, ⟨bounds_i64 w0, bounds_i64 w1, bounds_i64 w2, bounds_i64 w3, by simp only; omega, by simp only; omega, h6, h4, h5, ?_⟩⟩
    simp only
    rcases h9 with h9 | ⟨es, sp, e9, h9⟩
    · omega
    · have hD : D i = .agg [y0.1, y1.1, y2.1, y3.1, y4.1, y5.1, y6.1, .slice es sp] := by
        have := congrArg Prod.fst hy
        simp only at this
        rw [this, ← e9]
        rfl
      have hds : d = .slice ((List.range len).map D) ((List.range (m - len)).map fun j => D (len + j)) := congrArg Prod.fst hx
      have hmem : (es.length + sp.length) * Try.prog.bytesOf 5 ∈ DataW.weights Try.prog 22 d := by
        rw [hds]
        have u1 := Try.underlying22
        simp only [DataW.weights, u1, List.mem_cons, List.mem_append]
        refine .inr (.inl ?_)
        refine weights_in _ _ _ (D i) (List.mem_map.2 ⟨i, by simp [hi], rfl⟩) _ ?_
        rw [hD]
        have u2 := Try.underlying41
        have u3 := Try.underlying39
        simp [DataW.weights, DataW.weightsEach, u2, u3]
      have := List.all_eq_true.1 hsz _ (DataW.weights_mem_each ht hd _ hmem)
      rw [byte_bytes] at this
      have e : reachBytes = 140737488351232 := rfl
      simp at this
      omega
end
end Go.Proofs.Ythanjfnpohhebaa
