/- The argument of InboxPlays: steps with a packet in each. -/
import Derived.Test.YtjhdlohcjodgjaaArg
import Derived.Test.YtjhdlohcjodgjaaInb
namespace Go.Proofs.Ytjhdlohcjodgjaa
open Go.ChangeShapes Go.WideShapes Go.ChangeAt Go.RowKit Go.Deep
set_option linter.unusedVariables false

theorem byte_cells : Try.prog.cellsOf 5 = 1 := by kernel_rfl
theorem byte_bytes : Try.prog.bytesOf 5 = 1 := by kernel_rfl

section
variable {H : Type} {enc : TypeId × Value → H} {W : World} {held : Bool}
/-- a slice of bytes by its reading, whatever is read -/
theorem bytes_of_trod {fuel : Nat} {cs0 : List Value} {d : DataW H} {p : List MemPlace} (h : DataW.trod enc Try.prog W 0 (fun _ => true) held fuel 30 cs0 = some (d, p)) :
    ∃ ao n cap l, cs0 = [.slice ao n cap] ∧ l.length = n ∧ n ≤ cap ∧ cap ≤ maxLen ∧ Rd W ao l ∧ (n = 0 ∨ ∃ elems spare, d = .slice elems spare ∧ elems.length = n) := by
  rcases open_ints Try.underlying30 Try.underlying5 byte_cells h with ⟨hcs, hx⟩ | ⟨a, len, cap, zs, hcs, hb, hl, hm, hz, hx, hcell, hwf⟩
  · exact ⟨none, 0, 0, [], hcs, rfl, Nat.le_refl _, Nat.zero_le _, Rd.nil _ _, .inl rfl⟩
  · simp only [if_true] at hz
    have hby : ∀ z ∈ zs, 0 ≤ z ∧ z < 256 := fun z hz => by have := bounds_u8 (hwf z hz); omega
    refine ⟨some a, len, cap, (zs.take len).map Int.toNat, hcs, by simp; omega, hl, hm, ⟨?_, ?_⟩, .inr ⟨_, _, congrArg Prod.fst hx, by simp [lits]; omega⟩⟩
    · intro c hc
      obtain ⟨z, hz1, rfl⟩ := List.mem_map.1 hc
      have := hby z (List.mem_of_mem_take hz1)
      omega
    · intro j hj
      simp at hj
      obtain ⟨b, off, rfl, hc⟩ := ints_at hcell (by omega)
      have h1 := hc j (by omega)
      refine ⟨b, off, rfl, World.block_lt_of_cell? W _ h1, ?_⟩
      rw [h1]
      have hzj : zs[j]? = some (zs.getD j 0) := by simp [List.getD, show j < zs.length by omega]
      have h2 := hby (zs.getD j 0) (List.mem_of_getElem? hzj)
      have e : bt ((zs.take len).map Int.toNat) j = (zs.getD j 0).toNat := by
        unfold bt
        rw [List.getD_eq_getElem?_getD, List.getElem?_map, List.getElem?_take, if_pos (by omega), hzj]
        rfl
      rw [e]
      unfold u8v
      rw [Int.toNat_of_nonneg h2.1]
end
/-- n steps lie from ao on: each its kind, and a packet whose bytes lie in what came in -/
def PsRd (W : World) (ao : Option Addr) (n : Nat) : Prop :=
  ∀ i, i < n → ∃ (g o : Nat) (kind : Int) (p : Pkt), ao = some ⟨g, o, none⟩ ∧ g < W.heap.size ∧ W.cell? ⟨g, o + i * 5, none⟩ = some (.int .i64 kind) ∧ W.cell? ⟨g, o + i * 5 + 1, none⟩ = some (.int .u64 (p.id : Int)) ∧
    W.cell? ⟨g, o + i * 5 + 2, none⟩ = some (.int .i64 p.fr) ∧ W.cell? ⟨g, o + i * 5 + 3, none⟩ = some (.int .i64 p.to) ∧ W.cell? ⟨g, o + i * 5 + 4, none⟩ = some p.sl ∧ p.id < 18446744073709551616 ∧ Rd W p.ao p.data ∧ p.data.length ≤ p.cap ∧ p.data.length ≤ 140737488351232
theorem PsRd.below {W W' : World} {ao : Option Addr} {n : Nat} (h : PsRd W ao n) (b : Below W.heap.size W W') : PsRd W' ao n := fun i hi => by
  obtain ⟨g, o, kind, p, e, h0, h1, h2, h3, h4, h5, h6, h7, h8, h9⟩ := h i hi
  exact ⟨g, o, kind, p, e, Nat.lt_of_lt_of_le h0 b.size, (b.cell h0).trans h1, (b.cell h0).trans h2, (b.cell h0).trans h3, (b.cell h0).trans h4, (b.cell h0).trans h5, h6, h7.below b, h8, h9⟩
section
variable {H : Type} {enc : TypeId × Value → H} {W : World} {held : Bool}
theorem weights_in (P : Program) (t : TypeId) : ∀ (l : List (DataW H)) (x : DataW H), x ∈ l → ∀ n ∈ DataW.weights P t x, n ∈ DataW.weightsAll P t l := by
  intro l
  induction l with
  | nil => intro x hx; cases hx
  | cons y r ih =>
    intro x hx n hn
    simp only [DataW.weightsAll, List.mem_append]
    rcases List.mem_cons.1 hx with rfl | hx
    · exact .inl hn
    · exact .inr (ih x hx n hn)
set_option maxRecDepth 100000 in
theorem inboxPlays.ops_arg {ts : List TypeId} {ds : List (DataW H)} (hsz : (DataW.weightsEach Try.prog ts ds).all (· ≤ reachBytes) = true) {d : DataW H} (j : Nat) (ht : ts[j]? = some 22) (hd : ds[j]? = some d)
    {base : Nat} {v : Value} {p : List MemPlace} (ok : Value.okWide Try.prog W .any base 22 v) (k : DataW.Trod enc Try.prog W 0 (fun _ => true) held 22 v d p) :
    ∃ ao n cap, v = .slice ao n cap ∧ n ≤ cap ∧ cap ≤ maxLen ∧ PsRd W ao n := by
  obtain ⟨a0, len0, cap0, rfl⟩ := okWide_slice Try.underlying22 ok
  obtain ⟨fuel, hf⟩ := k
  rcases open_slice Try.underlying22 hf with ⟨hcs, hx⟩ | ⟨a, len, cap, m, f, D, Pl, hcs, hb, hl, hm, hmm, hx, hall⟩
  · have e : Value.slice a0 len0 cap0 = .slice none 0 0 := by simpa [Value.cells] using hcs
    exact ⟨none, 0, 0, e, Nat.le_refl _, Nat.zero_le _, fun i hi => by omega⟩
  · have e : Value.slice a0 len0 cap0 = .slice (some a) len cap := by simpa [Value.cells] using hcs
    simp only [if_true] at hmm
    have c41 : Try.prog.cellsOf 34 = 5 := by kernel_rfl
    have c3 : Try.prog.cellsOf 3 = 1 := by kernel_rfl
    have c4 : Try.prog.cellsOf 32 = 4 := by kernel_rfl
    have c6 : Try.prog.cellsOf 29 = 1 := by kernel_rfl
    have c7 : Try.prog.cellsOf 30 = 1 := by kernel_rfl
    refine ⟨some a, len, cap, e, hl, hm, fun i hi => ?_⟩
    obtain ⟨g, o, rfl⟩ : ∃ g o, a = ⟨g, o, none⟩ := by
      obtain ⟨cs', h1, h2⟩ := hall 0 (by omega)
      rw [Nat.zero_mul, add_zero, c41] at h1
      obtain ⟨hl2, hce⟩ := cells_each h1
      have h7 := hce 0 (by omega)
      rw [add_zero, List.getElem?_eq_getElem (by omega)] at h7
      exact no_spot h7
    obtain ⟨cs', h1, h2⟩ := hall i (by omega)
    rw [c41] at h1
    obtain ⟨hl2, hce⟩ := cells_each h1
    obtain ⟨y0, y1, n2, hy, _, t0, t1⟩ := trod_struct2 Try.underlying34 h2
    obtain ⟨u0, u1, u2, u3, u4, rfl⟩ := list5 cs' hl2
    change DataW.trod enc Try.prog W 0 (fun _ => true) held n2 3 (([u0, u1, u2, u3, u4].drop 0).take (Try.prog.cellsOf 3)) = some y0 at t0
    change DataW.trod enc Try.prog W 0 (fun _ => true) held n2 32 (([u0, u1, u2, u3, u4].drop 1).take (Try.prog.cellsOf 32)) = some y1 at t1
    rw [c3] at t0
    rw [c4] at t1
    simp only [List.drop_zero, List.take_succ_cons, List.take_zero, List.drop_succ_cons] at t0 t1
    obtain ⟨kind, e0, _, w0⟩ := DataW.trod_int Try.underlying3 t0
    obtain ⟨z0, z1, z2, z3, n3, hz, _, s0, s1, s2, s3⟩ := Joins.trod_struct4 Try.underlying32 t1
    change DataW.trod enc Try.prog W 0 (fun _ => true) held n3 29 (([u1, u2, u3, u4].drop 0).take (Try.prog.cellsOf 29)) = some z0 at s0
    change DataW.trod enc Try.prog W 0 (fun _ => true) held n3 3 (([u1, u2, u3, u4].drop 1).take (Try.prog.cellsOf 3)) = some z1 at s1
    change DataW.trod enc Try.prog W 0 (fun _ => true) held n3 3 (([u1, u2, u3, u4].drop 2).take (Try.prog.cellsOf 3)) = some z2 at s2
    change DataW.trod enc Try.prog W 0 (fun _ => true) held n3 30 (([u1, u2, u3, u4].drop 3).take (Try.prog.cellsOf 30)) = some z3 at s3
    rw [c6] at s0
    rw [c3] at s1 s2
    rw [c7] at s3
    simp only [List.drop_zero, List.take_succ_cons, List.take_zero, List.drop_succ_cons] at s0 s1 s2 s3
    obtain ⟨id, e1, _, w1⟩ := DataW.trod_int Try.underlying29 s0
    obtain ⟨fr, e2, _, w2⟩ := DataW.trod_int Try.underlying3 s1
    obtain ⟨to, e3, _, w3⟩ := DataW.trod_int Try.underlying3 s2
    obtain ⟨bo, n', c', l, e4, h3, h4, h5, h6, h9⟩ := bytes_of_trod s3
    simp only [List.cons.injEq, and_true] at e0 e1 e2 e3 e4
    subst e0 e1 e2 e3 e4 h3
    have hx1 := bounds_u64 w1
    obtain ⟨k, rfl⟩ : ∃ k : Nat, id = (k : Int) := ⟨id.toNat, by omega⟩
    have q0 := hce 0 (by omega); have q1 := hce 1 (by omega); have q2 := hce 2 (by omega); have q3 := hce 3 (by omega); have q4 := hce 4 (by omega)
    simp only [List.getElem?_cons_zero, List.getElem?_cons_succ] at q0 q1 q2 q3 q4
    rw [add_zero, Addr.add_lit] at q0
    rw [Addr.add_lit, Addr.add_lit] at q1 q2 q3 q4
    refine ⟨g, o, kind, ⟨k, fr, to, bo, c', l⟩, rfl, World.block_lt_of_cell? W _ q0, q0, q1, q2, q3, q4, by simp only; omega, h6, h4, ?_⟩
    simp only
    rcases h9 with h9 | ⟨es, sp, e9, h9⟩
    · omega
    · have hD1 : y1.1 = .agg [z0.1, z1.1, z2.1, .slice es sp] := by
        have := congrArg Prod.fst hz
        simp only at this
        rw [this, ← e9]
      have hD : D i = .agg [y0.1, .agg [z0.1, z1.1, z2.1, .slice es sp]] := by
        have := congrArg Prod.fst hy
        simp only at this
        rw [this, hD1]
      have hds : d = .slice ((List.range len).map D) ((List.range (m - len)).map fun j => D (len + j)) := congrArg Prod.fst hx
      have hmem : (es.length + sp.length) * Try.prog.bytesOf 5 ∈ DataW.weights Try.prog 22 d := by
        rw [hds]
        have u1 := Try.underlying22
        simp only [DataW.weights, u1, List.mem_cons, List.mem_append]
        refine .inr (.inl ?_)
        refine weights_in _ _ _ (D i) (List.mem_map.2 ⟨i, by simp [hi], rfl⟩) _ ?_
        rw [hD]
        have u2 := Try.underlying34
        have u3 := Try.underlying30
        have u4 := Try.underlying32
        simp [DataW.weights, DataW.weightsEach, u2, u3, u4]
      have := List.all_eq_true.1 hsz _ (DataW.weights_mem_each ht hd _ hmem)
      rw [byte_bytes] at this
      have e : reachBytes = 140737488351232 := rfl
      simp at this
      omega
end
end Go.Proofs.Ytjhdlohcjodgjaa
