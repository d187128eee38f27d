/- Arguments that are slices: steps of a script, events, promises that are told. -/
import Derived.Test.YtgfalpiifgoonaaAw
import Derived.SizedLaws
import Derived.DataReads
import Derived.MakeChecks
import Derived.Deep.Slices
import Derived.Deep.SlicePairs
import Derived.Deep.Strs
import Derived.Lib.SmallJoins
namespace Go.Proofs.Ytgfalpiifgoonaa
open Go.ChangeShapes Go.WideShapes Go.ChangeAt Go.RowKit Go.Deep
set_option linter.unusedVariables false
set_option linter.unusedSectionVars false
set_option linter.unusedSimpArgs false
set_option maxRecDepth 100000

/-- the cells cs lie at element k of a row of elements of z cells that begins at o -/
def AtE (W : World) (g o z k : Nat) (cs : List Value) : Prop := ∀ i v, cs[i]? = some v → W.cell? ⟨g, o + k * z + i, none⟩ = some v
theorem AtE.below {W W' : World} {g o z k : Nat} {cs : List Value} (h : AtE W g o z k cs) (hg : g < W.heap.size) (b : Below W.heap.size W W') : AtE W' g o z k cs := fun i v hi => (b.cell hg).trans (h i v hi)
theorem AtE.from {W W' : World} {B g o z k : Nat} {cs : List Value} (h : AtE W g o z k cs) (hg : g < B) (b : Below B W W') : AtE W' g o z k cs := fun i v hi => (b.cell hg).trans (h i v hi)
structure Opn where
  kind : Int
  from_ : Int
  round : Int
  b : Bl
  own : Bool
  a : Ac
  v : ByteArray
structure Opn.Ok (q : Opn) : Prop where
  f : (Lit.int .i64 q.from_).wf = true
  r : (Lit.int .u32 q.round).wf = true
  b : q.b.Ok
  ab : q.a.b.Ok
  av : q.a.v.size ≤ 281474976710656
  v : q.v.size ≤ 281474976710656
abbrev cO (q : Opn) : List Value := [.int .i64 q.kind, .int .i64 q.from_, .int .u32 q.round, .int .u32 q.b.round, .int .u8 q.b.node, .bool q.own, .bool q.a.is, .int .u32 q.a.b.round, .int .u8 q.a.b.node, .string q.a.v, .string q.v]
structure Evn where
  kind : Int
  a : Int
  b : Int
  v : ByteArray
structure Evn.Ok (q : Evn) : Prop where
  k : (Lit.int .i64 q.kind).wf = true
  a : (Lit.int .i64 q.a).wf = true
  b : (Lit.int .i64 q.b).wf = true
  v : q.v.size ≤ 281474976710656
abbrev cE (q : Evn) : List Value := [.int .i64 q.kind, .int .i64 q.a, .int .i64 q.b, .string q.v]
structure Tld where
  from_ : Int
  a : Ac
structure Tld.Ok (q : Tld) : Prop where
  f : (Lit.int .i64 q.from_).wf = true
  ab : q.a.b.Ok
  av : q.a.v.size ≤ 281474976710656
abbrev cT (q : Tld) : List Value := [.int .i64 q.from_, .bool q.a.is, .int .u32 q.a.b.round, .int .u8 q.a.b.node, .string q.a.v]
def OpsRd (W : World) (ao : Option Addr) (n : Nat) : Prop := ∀ k, k < n → ∃ g o q, ao = some ⟨g, o, none⟩ ∧ q.Ok ∧ g < W.heap.size ∧ AtE W g o 11 k (cO q)
def EvsRd (W : World) (ao : Option Addr) (n : Nat) : Prop := ∀ k, k < n → ∃ g o q, ao = some ⟨g, o, none⟩ ∧ q.Ok ∧ g < W.heap.size ∧ AtE W g o 4 k (cE q)
def TosRd (W : World) (ao : Option Addr) (n : Nat) : Prop := ∀ k, k < n → ∃ g o q, ao = some ⟨g, o, none⟩ ∧ q.Ok ∧ g < W.heap.size ∧ AtE W g o 5 k (cT q)

theorem cells_each {w : World} {base : Nat} {a : Addr} {n : Nat} {cs : List Value} (h : w.cells? base a n = some cs) : cs.length = n ∧ ∀ i, i < n → w.cell? (a.add i) = cs[i]? := by
  unfold World.cells? at h
  split at h
  · constructor
    · have := Lib.mapM_length h; simpa using this
    · intro i hi
      obtain ⟨b, hb, hf⟩ := Lib.mapM_at h i i (by simp [hi])
      rw [hf, hb]
  · cases h
theorem add_zero (a : Addr) : a.add 0 = a := by unfold Addr.add; split <;> simp_all
theorem no_spot {a : Addr} {w : World} {v : Value} (h : w.cell? a = some v) : ∃ g o, a = ⟨g, o, none⟩ := by
  obtain ⟨b, off, spot⟩ := a
  have hspot : spot = none := by simpa using World.cell?_spot h
  subst hspot
  exact ⟨b, off, rfl⟩
/-- the cells of an element, from its reading -/
theorem atE_of {W : World} {base g o z i : Nat} {cs : List Value} (hz : 0 < z) (h : W.cells? base ((⟨g, o, none⟩ : Addr).add (i * z)) z = some cs) : AtE W g o z i cs ∧ cs.length = z ∧ g < W.heap.size := by
  obtain ⟨hl, hc⟩ := cells_each h
  have hadd : ∀ j, ((⟨g, o, none⟩ : Addr).add (i * z)).add j = ⟨g, o + i * z + j, none⟩ := fun j => by rw [Addr.add_lit, Addr.add_lit]
  refine ⟨fun j v hj => ?_, hl, ?_⟩
  · have hlt : j < z := by have := (List.getElem?_eq_some_iff.1 hj).1; omega
    rw [← hadd, hc j hlt, hj]
  · have h0 := hc 0 hz
    rw [hadd, List.getElem?_eq_getElem (by omega)] at h0
    exact World.block_lt_of_cell? W _ h0
section
variable {H : Type} {enc : TypeId × Value → H} {W : World} {held : Bool}
theorem weights_in (P : Program) (t : TypeId) : ∀ (l : List (DataW H)) (x : DataW H), x ∈ l → ∀ n ∈ DataW.weights P t x, n ∈ DataW.weightsAll P t l := by
  intro l
  induction l with
  | nil => intro x hx; cases hx
  | cons y r ih =>
    intro x hx n hn
    simp only [DataW.weightsAll, List.mem_append]
    rcases List.mem_cons.1 hx with rfl | hx
    · exact .inl hn
    · exact .inr (ih x hx n hn)
theorem trod_str {P : Program} {fuel : Nat} {t : TypeId} {u : Value} {y : DataW H × List MemPlace} (ht : P.underlying t = some .string) (h : DataW.trod enc P W 0 (fun _ => true) held fuel t [u] = some y) :
    ∃ s : ByteArray, u = .string s ∧ y.1 = .lit (.string s.data.toList) := by
  cases fuel with
  | zero => simp [DataW.trod] at h
  | succ n =>
    unfold DataW.trod at h
    rw [ht] at h
    cases u <;> simp at h
    exact ⟨_, rfl, by rw [← h.2]⟩
theorem trod_bool {P : Program} {fuel : Nat} {t : TypeId} {u : Value} {y : DataW H × List MemPlace} (ht : P.underlying t = some .bool) (h : DataW.trod enc P W 0 (fun _ => true) held fuel t [u] = some y) : ∃ b : Bool, u = .bool b := by
  cases fuel with
  | zero => simp [DataW.trod] at h
  | succ n =>
    unfold DataW.trod at h
    rw [ht] at h
    cases u <;> simp at h
    exact ⟨_, rfl⟩
/-- a ballot -/
theorem trod_bl {fuel : Nat} {u0 u1 : Value} {y : DataW H × List MemPlace} (h : DataW.trod enc Try.prog W 0 (fun _ => true) held fuel 34 [u0, u1] = some y) : ∃ b : Bl, u0 = .int .u32 b.round ∧ u1 = .int .u8 b.node ∧ b.Ok := by
  obtain ⟨y0, y1, n, _, _, t0, t1⟩ := trod_struct2 Try.underlying34 h
  change DataW.trod enc Try.prog W 0 (fun _ => true) held n 32 (([u0, u1].drop 0).take (Try.prog.cellsOf 32)) = some y0 at t0
  change DataW.trod enc Try.prog W 0 (fun _ => true) held n 5 (([u0, u1].drop 1).take (Try.prog.cellsOf 5)) = some y1 at t1
  rw [c1c] at t0
  rw [c1d] at t1
  simp only [List.drop_zero, List.take_succ_cons, List.take_zero, List.drop_succ_cons] at t0 t1
  obtain ⟨r, e0, _, w0⟩ := DataW.trod_int Try.underlying32 t0
  obtain ⟨nd, e1, _, w1⟩ := DataW.trod_int Try.underlying5 t1
  simp only [List.cons.injEq, and_true] at e0 e1
  exact ⟨⟨r, nd⟩, e0, e1, ⟨w0, w1⟩⟩
/-- what was accepted -/
theorem trod_ac {fuel : Nat} {u0 u1 u2 u3 : Value} {y : DataW H × List MemPlace} (h : DataW.trod enc Try.prog W 0 (fun _ => true) held fuel 42 [u0, u1, u2, u3] = some y) :
    ∃ (a : Ac) (d0 d1 : DataW H), u0 = .bool a.is ∧ u1 = .int .u32 a.b.round ∧ u2 = .int .u8 a.b.node ∧ u3 = .string a.v ∧ a.b.Ok ∧ y.1 = .agg [d0, d1, .lit (.string a.v.data.toList)] := by
  obtain ⟨y0, y1, y2, n, hy, _, t0, t1, t2⟩ := Go.Deep.trod_struct3 Try.underlying42 h
  change DataW.trod enc Try.prog W 0 (fun _ => true) held n 4 (([u0, u1, u2, u3].drop 0).take (Try.prog.cellsOf 4)) = some y0 at t0
  change DataW.trod enc Try.prog W 0 (fun _ => true) held n 34 (([u0, u1, u2, u3].drop 1).take (Try.prog.cellsOf 34)) = some y1 at t1
  change DataW.trod enc Try.prog W 0 (fun _ => true) held n 9 (([u0, u1, u2, u3].drop 3).take (Try.prog.cellsOf 9)) = some y2 at t2
  rw [c1e] at t0
  rw [cBl] at t1
  rw [c1f] at t2
  simp only [List.drop_zero, List.take_succ_cons, List.take_zero, List.drop_succ_cons] at t0 t1 t2
  obtain ⟨is, e0⟩ := trod_bool Try.underlying4 t0
  obtain ⟨b, e1, e2, ok⟩ := trod_bl t1
  obtain ⟨s, e3, hs⟩ := trod_str Try.underlying9 t2
  exact ⟨⟨is, b, s⟩, y0.1, y1.1, e0, e1, e2, e3, ok, by rw [hy, hs]⟩
theorem trod_struct7 {P : Program} {t : TypeId} {f0 f1 f2 f3 f4 f5 f6 : Field} {fuel : Nat} {cs : List Value} {x : DataW H × List MemPlace} (ht : P.underlying t = some (.struct #[f0, f1, f2, f3, f4, f5, f6])) (h : DataW.trod enc P W 0 (fun _ => true) held fuel t cs = some x) :
    ∃ (y : Nat → DataW H × List MemPlace) (n : Nat), x.1 = .agg [(y 0).1, (y 1).1, (y 2).1, (y 3).1, (y 4).1, (y 5).1, (y 6).1] ∧
      ∀ (i : Nat) (f : Field), #[f0, f1, f2, f3, f4, f5, f6][i]? = some f → DataW.trod enc P W 0 (fun _ => true) held n f.type ((cs.drop f.offset).take (P.cellsOf f.type)) = some (y i) := by
  obtain ⟨xs, n, _, rfl, hl, hlen, hf⟩ := DataW.trod_struct ht h
  match xs, hlen with
  | [y0, y1, y2, y3, y4, y5, y6], _ =>
    refine ⟨fun i => match i with | 0 => y0 | 1 => y1 | 2 => y2 | 3 => y3 | 4 => y4 | 5 => y5 | _ => y6, n, by simp, fun i f hi => ?_⟩
    have := hf i f hi
    rw [this]
    have hi7 : i < 7 := by have := (Array.getElem?_eq_some_iff.1 hi).1; simpa using this
    have : i = 0 ∨ i = 1 ∨ i = 2 ∨ i = 3 ∨ i = 4 ∨ i = 5 ∨ i = 6 := by omega
    rcases this with rfl | rfl | rfl | rfl | rfl | rfl | rfl <;> rfl
theorem size_of {ts : List TypeId} {ds : List (DataW H)} (hsz : (DataW.weightsEach Try.prog ts ds).all (· ≤ reachBytes) = true) {d : DataW H} {j : Nat} {t : TypeId} (ht : ts[j]? = some t) (hd : ds[j]? = some d) (s : ByteArray)
    (hmem : s.data.toList.length ∈ DataW.weights Try.prog t d) : s.size ≤ 281474976710656 := by
  have := List.all_eq_true.1 hsz _ (DataW.weights_mem_each ht hd _ hmem)
  have e : reachBytes = 140737488351232 := rfl
  have hs2 : s.size = s.data.toList.length := by rw [Array.length_toList]; rfl
  have h9 := of_decide_eq_true this
  omega
theorem proposerPlays.ops_arg {ts : List TypeId} {ds : List (DataW H)} (hsz : (DataW.weightsEach Try.prog ts ds).all (· ≤ reachBytes) = true) {d : DataW H} (j : Nat) (ht : ts[j]? = some 22) (hd : ds[j]? = some d)
    {base : Nat} {v : Value} {p : List MemPlace} (ok : Value.okWide Try.prog W .any base 22 v) (k : DataW.Trod enc Try.prog W 0 (fun _ => true) held 22 v d p) :
    ∃ ao n cap, v = .slice ao n cap ∧ n ≤ cap ∧ cap ≤ maxLen ∧ OpsRd W ao n := by
  obtain ⟨a0, len0, cap0, rfl⟩ := okWide_slice Try.underlying22 ok
  obtain ⟨fuel, hf⟩ := k
  rcases open_slice Try.underlying22 hf with ⟨hcs, hx⟩ | ⟨a, len, cap, m, f, D, Pl, hcs, hb, hl, hm, hmm, hx, hall⟩
  · have e : Value.slice a0 len0 cap0 = .slice none 0 0 := by simpa [Value.cells] using hcs
    exact ⟨none, 0, 0, e, Nat.le_refl _, Nat.zero_le _, fun i hi => by omega⟩
  · have e : Value.slice a0 len0 cap0 = .slice (some a) len cap := by simpa [Value.cells] using hcs
    simp only [if_true] at hmm
    have cz : Try.prog.cellsOf 44 = 11 := by kernel_rfl
    refine ⟨some a, len, cap, e, hl, hm, fun i hi => ?_⟩
    obtain ⟨g, o, rfl⟩ : ∃ g o, a = ⟨g, o, none⟩ := by
      obtain ⟨cs', h1, h2⟩ := hall 0 (by omega)
      rw [Nat.zero_mul, add_zero, cz] at h1
      obtain ⟨hl2, hce⟩ := cells_each h1
      have h7 := hce 0 (by omega)
      rw [add_zero, List.getElem?_eq_getElem (by omega)] at h7
      exact no_spot h7
    obtain ⟨cs', h1, h2⟩ := hall i (by omega)
    rw [cz] at h1
    obtain ⟨hat, hl2, hg⟩ := atE_of (by omega) h1
    have hds : d = .slice ((List.range len).map D) ((List.range (m - len)).map fun j => D (len + j)) := congrArg Prod.fst hx
    have hin : ∀ s : ByteArray, s.data.toList.length ∈ DataW.weights Try.prog 44 (D i) → s.size ≤ 281474976710656 := fun s hs => by
      refine size_of hsz ht hd s ?_
      rw [hds]
      have v1 := Try.underlying22
      simp only [DataW.weights, v1, List.mem_cons, List.mem_append]
      exact .inr (.inl (weights_in _ _ _ (D i) (List.mem_map.2 ⟨i, by simp [hi], rfl⟩) _ hs))
    obtain ⟨u0, u1, u2, u3, u4, u5, u6, u7, u8, u9, u10, rfl⟩ := list11 cs' hl2
    obtain ⟨y, n2, hy, ht7⟩ := trod_struct7 Try.underlying44 h2
    have t0 : DataW.trod enc Try.prog W 0 (fun _ => true) held n2 3 (([u0, u1, u2, u3, u4, u5, u6, u7, u8, u9, u10].drop 0).take (Try.prog.cellsOf 3)) = some (y 0) := ht7 0 _ rfl
    have t1 : DataW.trod enc Try.prog W 0 (fun _ => true) held n2 3 (([u0, u1, u2, u3, u4, u5, u6, u7, u8, u9, u10].drop 1).take (Try.prog.cellsOf 3)) = some (y 1) := ht7 1 _ rfl
    have t2 : DataW.trod enc Try.prog W 0 (fun _ => true) held n2 32 (([u0, u1, u2, u3, u4, u5, u6, u7, u8, u9, u10].drop 2).take (Try.prog.cellsOf 32)) = some (y 2) := ht7 2 _ rfl
    have t3 : DataW.trod enc Try.prog W 0 (fun _ => true) held n2 34 (([u0, u1, u2, u3, u4, u5, u6, u7, u8, u9, u10].drop 3).take (Try.prog.cellsOf 34)) = some (y 3) := ht7 3 _ rfl
    have t4 : DataW.trod enc Try.prog W 0 (fun _ => true) held n2 4 (([u0, u1, u2, u3, u4, u5, u6, u7, u8, u9, u10].drop 5).take (Try.prog.cellsOf 4)) = some (y 4) := ht7 4 _ rfl
    have t5 : DataW.trod enc Try.prog W 0 (fun _ => true) held n2 42 (([u0, u1, u2, u3, u4, u5, u6, u7, u8, u9, u10].drop 6).take (Try.prog.cellsOf 42)) = some (y 5) := ht7 5 _ rfl
    have t6 : DataW.trod enc Try.prog W 0 (fun _ => true) held n2 9 (([u0, u1, u2, u3, u4, u5, u6, u7, u8, u9, u10].drop 10).take (Try.prog.cellsOf 9)) = some (y 6) := ht7 6 _ rfl
    simp only [c1b, c1c, cBl, c1e, cAc, c1f, List.drop_zero, List.take_succ_cons, List.take_zero, List.drop_succ_cons] at t0 t1 t2 t3 t4 t5 t6
    obtain ⟨kind, e0, _, w0⟩ := DataW.trod_int Try.underlying3 t0
    obtain ⟨fr, e1, _, w1⟩ := DataW.trod_int Try.underlying3 t1
    obtain ⟨rd, e2, _, w2⟩ := DataW.trod_int Try.underlying32 t2
    obtain ⟨b, e3, e4, bok⟩ := trod_bl t3
    obtain ⟨own, e5⟩ := trod_bool Try.underlying4 t4
    obtain ⟨ac, d0, d1, e6, e7, e8, e9, aok, hda⟩ := trod_ac t5
    obtain ⟨s, e10, hs⟩ := trod_str Try.underlying9 t6
    simp only [List.cons.injEq, and_true] at e0 e1 e2
    subst e0 e1 e2 e3 e4 e5 e6 e7 e8 e9 e10
    have hD : D i = .agg [(y 0).1, (y 1).1, (y 2).1, (y 3).1, (y 4).1, .agg [d0, d1, .lit (.string ac.v.data.toList)], .lit (.string s.data.toList)] := by
      rw [← hda, ← hs]; exact hy
    have v2 := Try.underlying44
    have v3 := Try.underlying42
    exact ⟨g, o, ⟨kind, fr, rd, b, own, ac, s⟩, rfl, ⟨w1, w2, bok, aok, hin ac.v (by rw [hD]; simp [DataW.weights, DataW.weightsEach, v2, v3]), hin s (by rw [hD]; simp [DataW.weights, DataW.weightsEach, v2])⟩, hg, hat⟩
theorem proposerOneValue.ops_arg {ts : List TypeId} {ds : List (DataW H)} (hsz : (DataW.weightsEach Try.prog ts ds).all (· ≤ reachBytes) = true) {d : DataW H} (j : Nat) (ht : ts[j]? = some 57) (hd : ds[j]? = some d)
    {base : Nat} {v : Value} {p : List MemPlace} (ok : Value.okWide Try.prog W .any base 57 v) (k : DataW.Trod enc Try.prog W 0 (fun _ => true) held 57 v d p) :
    ∃ ao n cap, v = .slice ao n cap ∧ n ≤ cap ∧ cap ≤ maxLen ∧ EvsRd W ao n := by
  obtain ⟨a0, len0, cap0, rfl⟩ := okWide_slice Try.underlying57 ok
  obtain ⟨fuel, hf⟩ := k
  rcases open_slice Try.underlying57 hf with ⟨hcs, hx⟩ | ⟨a, len, cap, m, f, D, Pl, hcs, hb, hl, hm, hmm, hx, hall⟩
  · have e : Value.slice a0 len0 cap0 = .slice none 0 0 := by simpa [Value.cells] using hcs
    exact ⟨none, 0, 0, e, Nat.le_refl _, Nat.zero_le _, fun i hi => by omega⟩
  · have e : Value.slice a0 len0 cap0 = .slice (some a) len cap := by simpa [Value.cells] using hcs
    simp only [if_true] at hmm
    have cz : Try.prog.cellsOf 73 = 4 := by kernel_rfl
    refine ⟨some a, len, cap, e, hl, hm, fun i hi => ?_⟩
    obtain ⟨g, o, rfl⟩ : ∃ g o, a = ⟨g, o, none⟩ := by
      obtain ⟨cs', h1, h2⟩ := hall 0 (by omega)
      rw [Nat.zero_mul, add_zero, cz] at h1
      obtain ⟨hl2, hce⟩ := cells_each h1
      have h7 := hce 0 (by omega)
      rw [add_zero, List.getElem?_eq_getElem (by omega)] at h7
      exact no_spot h7
    obtain ⟨cs', h1, h2⟩ := hall i (by omega)
    rw [cz] at h1
    obtain ⟨hat, hl2, hg⟩ := atE_of (by omega) h1
    have hds : d = .slice ((List.range len).map D) ((List.range (m - len)).map fun j => D (len + j)) := congrArg Prod.fst hx
    have hin : ∀ s : ByteArray, s.data.toList.length ∈ DataW.weights Try.prog 73 (D i) → s.size ≤ 281474976710656 := fun s hs => by
      refine size_of hsz ht hd s ?_
      rw [hds]
      have v1 := Try.underlying57
      simp only [DataW.weights, v1, List.mem_cons, List.mem_append]
      exact .inr (.inl (weights_in _ _ _ (D i) (List.mem_map.2 ⟨i, by simp [hi], rfl⟩) _ hs))
    obtain ⟨u0, u1, u2, u3, rfl⟩ := list4 cs' hl2
    obtain ⟨y0, y1, y2, y3, n2, hy, _, t0, t1, t2, t3⟩ := Joins.trod_struct4 Try.underlying73 h2
    change DataW.trod enc Try.prog W 0 (fun _ => true) held n2 3 (([u0, u1, u2, u3].drop 0).take (Try.prog.cellsOf 3)) = some y0 at t0
    change DataW.trod enc Try.prog W 0 (fun _ => true) held n2 3 (([u0, u1, u2, u3].drop 1).take (Try.prog.cellsOf 3)) = some y1 at t1
    change DataW.trod enc Try.prog W 0 (fun _ => true) held n2 3 (([u0, u1, u2, u3].drop 2).take (Try.prog.cellsOf 3)) = some y2 at t2
    change DataW.trod enc Try.prog W 0 (fun _ => true) held n2 9 (([u0, u1, u2, u3].drop 3).take (Try.prog.cellsOf 9)) = some y3 at t3
    simp only [c1b, c1f, List.drop_zero, List.take_succ_cons, List.take_zero, List.drop_succ_cons] at t0 t1 t2 t3
    obtain ⟨kind, e0, _, w0⟩ := DataW.trod_int Try.underlying3 t0
    obtain ⟨a, e1, _, w1⟩ := DataW.trod_int Try.underlying3 t1
    obtain ⟨b, e2, _, w2⟩ := DataW.trod_int Try.underlying3 t2
    obtain ⟨s, e3, hs⟩ := trod_str Try.underlying9 t3
    simp only [List.cons.injEq, and_true] at e0 e1 e2
    subst e0 e1 e2 e3
    have hD : D i = .agg [y0.1, y1.1, y2.1, .lit (.string s.data.toList)] := by
      have := congrArg Prod.fst hy
      simp only at this
      rw [this, hs]
    have v2 := Try.underlying73
    exact ⟨g, o, ⟨kind, a, b, s⟩, rfl, ⟨w0, w1, w2, hin s (by rw [hD]; simp [DataW.weights, DataW.weightsEach, v2])⟩, hg, hat⟩
theorem proposerAdopts.ops_arg {ts : List TypeId} {ds : List (DataW H)} (hsz : (DataW.weightsEach Try.prog ts ds).all (· ≤ reachBytes) = true) {d : DataW H} (j : Nat) (ht : ts[j]? = some 76) (hd : ds[j]? = some d)
    {base : Nat} {v : Value} {p : List MemPlace} (ok : Value.okWide Try.prog W .any base 76 v) (k : DataW.Trod enc Try.prog W 0 (fun _ => true) held 76 v d p) :
    ∃ ao n cap, v = .slice ao n cap ∧ n ≤ cap ∧ cap ≤ maxLen ∧ TosRd W ao n := by
  obtain ⟨a0, len0, cap0, rfl⟩ := okWide_slice Try.underlying76 ok
  obtain ⟨fuel, hf⟩ := k
  rcases open_slice Try.underlying76 hf with ⟨hcs, hx⟩ | ⟨a, len, cap, m, f, D, Pl, hcs, hb, hl, hm, hmm, hx, hall⟩
  · have e : Value.slice a0 len0 cap0 = .slice none 0 0 := by simpa [Value.cells] using hcs
    exact ⟨none, 0, 0, e, Nat.le_refl _, Nat.zero_le _, fun i hi => by omega⟩
  · have e : Value.slice a0 len0 cap0 = .slice (some a) len cap := by simpa [Value.cells] using hcs
    simp only [if_true] at hmm
    have cz : Try.prog.cellsOf 79 = 5 := by kernel_rfl
    refine ⟨some a, len, cap, e, hl, hm, fun i hi => ?_⟩
    obtain ⟨g, o, rfl⟩ : ∃ g o, a = ⟨g, o, none⟩ := by
      obtain ⟨cs', h1, h2⟩ := hall 0 (by omega)
      rw [Nat.zero_mul, add_zero, cz] at h1
      obtain ⟨hl2, hce⟩ := cells_each h1
      have h7 := hce 0 (by omega)
      rw [add_zero, List.getElem?_eq_getElem (by omega)] at h7
      exact no_spot h7
    obtain ⟨cs', h1, h2⟩ := hall i (by omega)
    rw [cz] at h1
    obtain ⟨hat, hl2, hg⟩ := atE_of (by omega) h1
    have hds : d = .slice ((List.range len).map D) ((List.range (m - len)).map fun j => D (len + j)) := congrArg Prod.fst hx
    have hin : ∀ s : ByteArray, s.data.toList.length ∈ DataW.weights Try.prog 79 (D i) → s.size ≤ 281474976710656 := fun s hs => by
      refine size_of hsz ht hd s ?_
      rw [hds]
      have v1 := Try.underlying76
      simp only [DataW.weights, v1, List.mem_cons, List.mem_append]
      exact .inr (.inl (weights_in _ _ _ (D i) (List.mem_map.2 ⟨i, by simp [hi], rfl⟩) _ hs))
    obtain ⟨u0, u1, u2, u3, u4, rfl⟩ := list5 cs' hl2
    obtain ⟨y0, y1, n2, hy, _, t0, t1⟩ := trod_struct2 Try.underlying79 h2
    change DataW.trod enc Try.prog W 0 (fun _ => true) held n2 3 (([u0, u1, u2, u3, u4].drop 0).take (Try.prog.cellsOf 3)) = some y0 at t0
    change DataW.trod enc Try.prog W 0 (fun _ => true) held n2 42 (([u0, u1, u2, u3, u4].drop 1).take (Try.prog.cellsOf 42)) = some y1 at t1
    simp only [c1b, cAc, List.drop_zero, List.take_succ_cons, List.take_zero, List.drop_succ_cons] at t0 t1
    obtain ⟨fr, e0, _, w0⟩ := DataW.trod_int Try.underlying3 t0
    obtain ⟨ac, d0, d1, e1, e2, e3, e4, aok, hda⟩ := trod_ac t1
    simp only [List.cons.injEq, and_true] at e0
    subst e0 e1 e2 e3 e4
    have hD : D i = .agg [y0.1, .agg [d0, d1, .lit (.string ac.v.data.toList)]] := by
      have := congrArg Prod.fst hy
      simp only at this
      rw [this, hda]
    have v2 := Try.underlying79
    have v3 := Try.underlying42
    exact ⟨g, o, ⟨fr, ac⟩, rfl, ⟨w0, aok, hin ac.v (by rw [hD]; simp [DataW.weights, DataW.weightsEach, v2, v3])⟩, hg, hat⟩
theorem proposerHeard.ops_arg {ts : List TypeId} {ds : List (DataW H)} (hsz : (DataW.weightsEach Try.prog ts ds).all (· ≤ reachBytes) = true) {d : DataW H} (j : Nat) (ht : ts[j]? = some 22) (hd : ds[j]? = some d)
    {base : Nat} {v : Value} {p : List MemPlace} (ok : Value.okWide Try.prog W .any base 22 v) (k : DataW.Trod enc Try.prog W 0 (fun _ => true) held 22 v d p) :
    ∃ ao n cap, v = .slice ao n cap ∧ n ≤ cap ∧ cap ≤ maxLen ∧ OpsRd W ao n := proposerPlays.ops_arg hsz j ht hd ok k
/-- a text that comes in -/
theorem text_arg {ts : List TypeId} {ds : List (DataW H)} (hsz : (DataW.weightsEach Try.prog ts ds).all (· ≤ reachBytes) = true) {d : DataW H} (j : Nat) (ht : ts[j]? = some 9) (hd : ds[j]? = some d)
    {base : Nat} {v : Value} {p : List MemPlace} (ok : Value.okWide Try.prog W .any base 9 v) (k : DataW.Trod enc Try.prog W 0 (fun _ => true) held 9 v d p) : ∃ s : ByteArray, v = .string s ∧ s.size ≤ 281474976710656 := by
  obtain ⟨s, rfl, _⟩ := val_string Try.underlying9 ok
  obtain ⟨fuel, hf⟩ := k
  obtain ⟨s', e, hs⟩ := trod_str Try.underlying9 (show DataW.trod enc Try.prog W 0 (fun _ => true) held fuel 9 [.string s] = some (d, p) from hf)
  cases e
  refine ⟨s, rfl, size_of hsz ht hd s ?_⟩
  simp only at hs
  rw [hs]
  have v1 := Try.underlying9
  simp [DataW.weights, v1]
end
end Go.Proofs.Ytgfalpiifgoonaa
