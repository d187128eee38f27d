/- Arguments that are slices: a script's steps. -/
import Derived.Test.YtgknmicblnldiaaAw
import Derived.SizedLaws
import Derived.DataReads
import Derived.MakeChecks
import Derived.Deep.Slices
import Derived.Deep.SlicePairs
import Derived.Deep.Strs
import Derived.Lib.SmallJoins
namespace Go.Proofs.Ytgknmicblnldiaa
open Go.ChangeShapes Go.WideShapes Go.ChangeAt Go.RowKit Go.Deep
set_option linter.unusedVariables false

structure Opn where
  kind : Int
  i : In
  b : Bl
  v : ByteArray
structure Opn.Ok (q : Opn) : Prop where
  i : q.i.Ok
  v : q.v.size ≤ 281474976710656
  b1 : 0 ≤ q.b.round
  b2 : 0 ≤ q.b.node
abbrev Opn.ag (q : Opn) : Value := .agg #[.int .i64 q.kind, .int .u64 q.i.tx, .int .i64 q.i.b, .int .i64 q.i.r, .int .u32 q.i.x, .int .u32 q.b.round, .int .u8 q.b.node, .string q.v]
/-- step k of a script lies from ao on -/
def OpAt (W : World) (g o : Nat) (k : Nat) (q : Opn) : Prop :=
  W.cell? ⟨g, o + k * 8, none⟩ = some (.int .i64 q.kind) ∧ W.cell? ⟨g, o + k * 8 + 1, none⟩ = some (.int .u64 q.i.tx) ∧ W.cell? ⟨g, o + k * 8 + 2, none⟩ = some (.int .i64 q.i.b) ∧ W.cell? ⟨g, o + k * 8 + 3, none⟩ = some (.int .i64 q.i.r) ∧
    W.cell? ⟨g, o + k * 8 + 4, none⟩ = some (.int .u32 q.i.x) ∧ W.cell? ⟨g, o + k * 8 + 5, none⟩ = some (.int .u32 q.b.round) ∧ W.cell? ⟨g, o + k * 8 + 6, none⟩ = some (.int .u8 q.b.node) ∧ W.cell? ⟨g, o + k * 8 + 7, none⟩ = some (.string q.v)
def OpsRd (W : World) (ao : Option Addr) (n : Nat) : Prop :=
  ∀ k, k < n → ∃ g o q, ao = some ⟨g, o, none⟩ ∧ q.Ok ∧ g < W.heap.size ∧ OpAt W g o k q
theorem OpAt.below {W W' : World} {g o k : Nat} {q : Opn} (h : OpAt W g o k q) (hg : g < W.heap.size) (b : Below W.heap.size W W') : OpAt W' g o k q :=
  ⟨(b.cell hg).trans h.1, (b.cell hg).trans h.2.1, (b.cell hg).trans h.2.2.1, (b.cell hg).trans h.2.2.2.1, (b.cell hg).trans h.2.2.2.2.1, (b.cell hg).trans h.2.2.2.2.2.1, (b.cell hg).trans h.2.2.2.2.2.2.1, (b.cell hg).trans h.2.2.2.2.2.2.2⟩
theorem OpsRd.below {W W' : World} {ao : Option Addr} {n : Nat} (h : OpsRd W ao n) (b : Below W.heap.size W W') : OpsRd W' ao n := fun i hi => by
  obtain ⟨g, o, q, e, h0, h1, h2⟩ := h i hi
  exact ⟨g, o, q, e, h0, Nat.lt_of_lt_of_le h1 b.size, h2.below h1 b⟩

theorem cells_each {w : World} {base : Nat} {a : Addr} {n : Nat} {cs : List Value} (h : w.cells? base a n = some cs) : cs.length = n ∧ ∀ i, i < n → w.cell? (a.add i) = cs[i]? := by
  unfold World.cells? at h
  split at h
  · constructor
    · have := Lib.mapM_length h; simpa using this
    · intro i hi
      obtain ⟨b, hb, hf⟩ := Lib.mapM_at h i i (by simp [hi])
      rw [hf, hb]
  · cases h
theorem add_zero (a : Addr) : a.add 0 = a := by unfold Addr.add; split <;> simp_all
theorem no_spot {a : Addr} {w : World} {v : Value} (h : w.cell? a = some v) : ∃ g o, a = ⟨g, o, none⟩ := by
  obtain ⟨b, off, spot⟩ := a
  have hspot : spot = none := by simpa using World.cell?_spot h
  subst hspot
  exact ⟨b, off, rfl⟩
section
variable {H : Type} {enc : TypeId × Value → H} {W : World} {held : Bool}
theorem weights_in (P : Program) (t : TypeId) : ∀ (l : List (DataW H)) (x : DataW H), x ∈ l → ∀ n ∈ DataW.weights P t x, n ∈ DataW.weightsAll P t l := by
  intro l
  induction l with
  | nil => intro x hx; cases hx
  | cons y r ih =>
    intro x hx n hn
    simp only [DataW.weightsAll, List.mem_append]
    rcases List.mem_cons.1 hx with rfl | hx
    · exact .inl hn
    · exact .inr (ih x hx n hn)
theorem trod_str {P : Program} {fuel : Nat} {t : TypeId} {u : Value} {y : DataW H × List MemPlace} (ht : P.underlying t = some .string) (h : DataW.trod enc P W 0 (fun _ => true) held fuel t [u] = some y) :
    ∃ s : ByteArray, u = .string s ∧ y.1 = .lit (.string s.data.toList) := by
  cases fuel with
  | zero => simp [DataW.trod] at h
  | succ n =>
    unfold DataW.trod at h
    rw [ht] at h
    cases u <;> simp at h
    exact ⟨_, rfl, by rw [← h.2]⟩
set_option maxRecDepth 100000 in
theorem ops_arg {ts : List TypeId} {ds : List (DataW H)} (hsz : (DataW.weightsEach Try.prog ts ds).all (· ≤ reachBytes) = true) {d : DataW H} (j : Nat) (ht : ts[j]? = some 22) (hd : ds[j]? = some d)
    {base : Nat} {v : Value} {p : List MemPlace} (ok : Value.okWide Try.prog W .any base 22 v) (k : DataW.Trod enc Try.prog W 0 (fun _ => true) held 22 v d p) :
    ∃ ao n cap, v = .slice ao n cap ∧ n ≤ cap ∧ cap ≤ maxLen ∧ OpsRd W ao n := by
  obtain ⟨a0, len0, cap0, rfl⟩ := okWide_slice Try.underlying22 ok
  obtain ⟨fuel, hf⟩ := k
  rcases open_slice Try.underlying22 hf with ⟨hcs, hx⟩ | ⟨a, len, cap, m, f, D, Pl, hcs, hb, hl, hm, hmm, hx, hall⟩
  · have e : Value.slice a0 len0 cap0 = .slice none 0 0 := by simpa [Value.cells] using hcs
    exact ⟨none, 0, 0, e, Nat.le_refl _, Nat.zero_le _, fun i hi => by omega⟩
  · have e : Value.slice a0 len0 cap0 = .slice (some a) len cap := by simpa [Value.cells] using hcs
    simp only [if_true] at hmm
    have c8 : Try.prog.cellsOf 40 = 8 := by kernel_rfl
    have c1 : Try.prog.cellsOf 3 = 1 := by kernel_rfl
    have c2 : Try.prog.cellsOf 36 = 4 := by kernel_rfl
    have c3 : Try.prog.cellsOf 38 = 2 := by kernel_rfl
    have c4 : Try.prog.cellsOf 33 = 1 := by kernel_rfl
    have c5 : Try.prog.cellsOf 34 = 1 := by kernel_rfl
    have c6 : Try.prog.cellsOf 5 = 1 := by kernel_rfl
    have c7 : Try.prog.cellsOf 9 = 1 := by kernel_rfl
    refine ⟨some a, len, cap, e, hl, hm, fun i hi => ?_⟩
    obtain ⟨g, o, rfl⟩ : ∃ g o, a = ⟨g, o, none⟩ := by
      obtain ⟨cs', h1, h2⟩ := hall 0 (by omega)
      rw [Nat.zero_mul, add_zero, c8] at h1
      obtain ⟨hl2, hce⟩ := cells_each h1
      have h7 := hce 0 (by omega)
      rw [add_zero, List.getElem?_eq_getElem (by omega)] at h7
      exact no_spot h7
    obtain ⟨cs', h1, h2⟩ := hall i (by omega)
    rw [c8] at h1
    obtain ⟨hl2, hce⟩ := cells_each h1
    obtain ⟨y0, y1, y2, y3, n2, hy, _, t0, t1, t2, t3⟩ := Joins.trod_struct4 Try.underlying40 h2
    obtain ⟨u0, u1, u2, u3, u4, u5, u6, u7, rfl⟩ := list8 cs' hl2
    change DataW.trod enc Try.prog W 0 (fun _ => true) held n2 3 (([u0, u1, u2, u3, u4, u5, u6, u7].drop 0).take (Try.prog.cellsOf 3)) = some y0 at t0
    change DataW.trod enc Try.prog W 0 (fun _ => true) held n2 36 (([u0, u1, u2, u3, u4, u5, u6, u7].drop 1).take (Try.prog.cellsOf 36)) = some y1 at t1
    change DataW.trod enc Try.prog W 0 (fun _ => true) held n2 38 (([u0, u1, u2, u3, u4, u5, u6, u7].drop 5).take (Try.prog.cellsOf 38)) = some y2 at t2
    change DataW.trod enc Try.prog W 0 (fun _ => true) held n2 9 (([u0, u1, u2, u3, u4, u5, u6, u7].drop 7).take (Try.prog.cellsOf 9)) = some y3 at t3
    rw [c1] at t0
    rw [c2] at t1
    rw [c3] at t2
    rw [c7] at t3
    simp only [List.drop_zero, List.take_succ_cons, List.take_zero, List.drop_succ_cons] at t0 t1 t2 t3
    obtain ⟨kind, e0, _, _⟩ := DataW.trod_int Try.underlying3 t0
    obtain ⟨z0, z1, z2, z3, n3, hz, _, s0, s1, s2, s3⟩ := Joins.trod_struct4 Try.underlying36 t1
    change DataW.trod enc Try.prog W 0 (fun _ => true) held n3 33 (([u1, u2, u3, u4].drop 0).take (Try.prog.cellsOf 33)) = some z0 at s0
    change DataW.trod enc Try.prog W 0 (fun _ => true) held n3 3 (([u1, u2, u3, u4].drop 1).take (Try.prog.cellsOf 3)) = some z1 at s1
    change DataW.trod enc Try.prog W 0 (fun _ => true) held n3 3 (([u1, u2, u3, u4].drop 2).take (Try.prog.cellsOf 3)) = some z2 at s2
    change DataW.trod enc Try.prog W 0 (fun _ => true) held n3 34 (([u1, u2, u3, u4].drop 3).take (Try.prog.cellsOf 34)) = some z3 at s3
    rw [c4] at s0
    rw [c1] at s1 s2
    rw [c5] at s3
    simp only [List.drop_zero, List.take_succ_cons, List.take_zero, List.drop_succ_cons] at s0 s1 s2 s3
    obtain ⟨tx, e1, _, w1⟩ := DataW.trod_int Try.underlying33 s0
    obtain ⟨ib, e2, _, w2⟩ := DataW.trod_int Try.underlying3 s1
    obtain ⟨ir, e3, _, w3⟩ := DataW.trod_int Try.underlying3 s2
    obtain ⟨ix, e4, _, w4⟩ := DataW.trod_int Try.underlying34 s3
    obtain ⟨x0, x1, n4, _, _, r0, r1⟩ := trod_struct2 Try.underlying38 t2
    change DataW.trod enc Try.prog W 0 (fun _ => true) held n4 34 (([u5, u6].drop 0).take (Try.prog.cellsOf 34)) = some x0 at r0
    change DataW.trod enc Try.prog W 0 (fun _ => true) held n4 5 (([u5, u6].drop 1).take (Try.prog.cellsOf 5)) = some x1 at r1
    rw [c5] at r0
    rw [c6] at r1
    simp only [List.drop_zero, List.take_succ_cons, List.take_zero, List.drop_succ_cons] at r0 r1
    obtain ⟨br, e5, _, w5⟩ := DataW.trod_int Try.underlying34 r0
    obtain ⟨bn, e6, _, w6⟩ := DataW.trod_int Try.underlying5 r1
    obtain ⟨s, e7, hs⟩ := trod_str Try.underlying9 t3
    simp only [List.cons.injEq, and_true] at e0 e1 e2 e3 e4 e5 e6
    subst e0 e1 e2 e3 e4 e5 e6 e7
    have q0 := hce 0 (by omega); have q1 := hce 1 (by omega); have q2 := hce 2 (by omega); have q3 := hce 3 (by omega); have q4 := hce 4 (by omega); have q5 := hce 5 (by omega); have q6 := hce 6 (by omega); have q7 := hce 7 (by omega)
    simp only [List.getElem?_cons_zero, List.getElem?_cons_succ] at q0 q1 q2 q3 q4 q5 q6 q7
    rw [add_zero, Addr.add_lit] at q0
    rw [Addr.add_lit, Addr.add_lit] at q1 q2 q3 q4 q5 q6 q7
    refine ⟨g, o, ⟨kind, ⟨tx, ib, ir, ix⟩, ⟨br, bn⟩, s⟩, rfl, ⟨⟨w1, w2, w3, w4⟩, ?_, (bounds_u32 w5).1, (bounds_u8 w6).1⟩, World.block_lt_of_cell? W _ q0, q0, q1, q2, q3, q4, q5, q6, q7⟩
    simp only
    have hD : D i = .agg [y0.1, y1.1, y2.1, .lit (.string s.data.toList)] := by
      have := congrArg Prod.fst hy
      simp only at this
      rw [this, hs]
    have hds : d = .slice ((List.range len).map D) ((List.range (m - len)).map fun j => D (len + j)) := congrArg Prod.fst hx
    have hmem : s.data.toList.length ∈ DataW.weights Try.prog 22 d := by
      rw [hds]
      have v1 := Try.underlying22
      simp only [DataW.weights, v1, List.mem_cons, List.mem_append]
      refine .inr (.inl ?_)
      refine weights_in _ _ _ (D i) (List.mem_map.2 ⟨i, by simp [hi], rfl⟩) _ ?_
      rw [hD]
      have v2 := Try.underlying40
      simp [DataW.weights, DataW.weightsEach, v2]
    have := List.all_eq_true.1 hsz _ (DataW.weights_mem_each ht hd _ hmem)
    have e : reachBytes = 140737488351232 := rfl
    have hs2 : s.size = s.data.toList.length := by rw [Array.length_toList]; rfl
    have h9 := of_decide_eq_true this
    omega
end
end Go.Proofs.Ytgknmicblnldiaa
