/- Arguments: an item; a script's ops. -/
import Derived.Test.YtbjcmomicjdepaaRr
import Derived.SizedLaws
import Derived.DataReads
import Derived.MakeChecks
import Derived.Deep.Slices
import Derived.Deep.SlicePairs
import Derived.Deep.Strs
import Derived.ChangeSame
import Derived.Lib.SmallJoins
import Derived.Laws.IdiomArrays
namespace Go.Proofs.Ytbjcmomicjdepaa
open Go.ChangeShapes Go.WideShapes Go.ChangeAt Go.RowKit Go.Deep
set_option linter.unusedVariables false
set_option linter.unusedSimpArgs false
set_option linter.unusedSectionVars false
set_option maxRecDepth 100000
theorem cells_each {w : World} {base : Nat} {a : Addr} {n : Nat} {cs : List Value} (h : w.cells? base a n = some cs) : cs.length = n ∧ ∀ i, i < n → w.cell? (a.add i) = cs[i]? := by
  unfold World.cells? at h
  split at h
  · constructor
    · have := Lib.mapM_length h; simpa using this
    · intro i hi
      obtain ⟨b, hb, hf⟩ := Lib.mapM_at h i i (by simp [hi])
      rw [hf, hb]
  · cases h
theorem add_zero (a : Addr) : a.add 0 = a := by unfold Addr.add; split <;> simp_all
theorem no_spot {a : Addr} {w : World} {v : Value} (h : w.cell? a = some v) : ∃ g o, a = ⟨g, o, none⟩ := by
  obtain ⟨b, off, spot⟩ := a
  have hspot : spot = none := by simpa using World.cell?_spot h
  subst hspot
  exact ⟨b, off, rfl⟩
theorem ents_of {W : World} {ao : Option Addr} : ∀ (n : Nat), (∀ j, j < n → ∃ g o k v, ao = some ⟨g, o, none⟩ ∧ g < W.heap.size ∧ W.cell? ⟨g, o + j * 2, none⟩ = some (.string k) ∧ W.cell? ⟨g, o + j * 2 + 1, none⟩ = some (.string v) ∧ k.size ≤ maxLen ∧ v.size ≤ maxLen) →
    ∃ L : List En, L.length = n ∧ Rds W 2 ao (L.map En.list) ∧ ∀ e ∈ L, e.k.size ≤ maxLen ∧ e.v.size ≤ maxLen
  | 0, _ => ⟨[], rfl, fun j p hp => by simp at hp, by simp⟩
  | n + 1, hall => by
    obtain ⟨L, hL, hrd, hsz⟩ := ents_of n (fun j hj => hall j (by omega))
    obtain ⟨g, o, k, v, e, h0, h1, h2, h3, h4⟩ := hall n (by omega)
    refine ⟨L ++ [⟨k, v⟩], by rw [List.length_append, hL]; rfl, fun j p hp => ?_, fun x hx => ?_⟩
    · rw [List.map_append] at hp
      rcases Nat.lt_trichotomy j L.length with hj | hj | hj
      · rw [List.getElem?_append_left (by simpa using hj)] at hp; exact hrd j p hp
      · subst hj
        rw [List.getElem?_append_right (by simp), List.length_map, Nat.sub_self] at hp
        simp only [List.map_cons, List.map_nil, List.getElem?_cons_zero, Option.some.injEq] at hp
        subst hp
        rw [hL]
        refine ⟨g, o, e, h0, fun q u hq => ?_⟩
        match q, hq with
        | 0, hq => simp at hq; subst hq; exact h1
        | 1, hq => simp at hq; subst hq; exact h2
      · rw [List.getElem?_eq_none (by simp; omega)] at hp; cases hp
    · rw [List.mem_append, List.mem_singleton] at hx
      rcases hx with hx | rfl
      · exact hsz x hx
      · exact ⟨h3, h4⟩
section
variable {H : Type} {enc : TypeId × Value → H} {W : World} {held : Bool}
/-- a slice of entries, by its reading -/
theorem entries_of {fuel : Nat} {cs0 : List Value} {d : DataW H} {p : List MemPlace} (h : DataW.trod enc Try.prog W 0 (fun _ => true) held fuel 23 cs0 = some (d, p)) :
    ∃ s es, cs0 = [.slice s.ao es.length s.cap] ∧ EsR W s es := by
  rcases open_slice Try.underlying23 h with ⟨hcs, hx⟩ | ⟨a, len, cap, m, f, D, Pl, hcs, hb, hl, hm, hmm, hx, hall⟩
  · exact ⟨⟨none, 0⟩, [], hcs, EsR.nil _⟩
  · simp only [if_true] at hmm
    have c2 : Try.prog.cellsOf 106 = 2 := by kernel_rfl
    have c1 : Try.prog.cellsOf 9 = 1 := by kernel_rfl
    have key : ∃ L : List En, L.length = len ∧ Rds W 2 (some a) (L.map En.list) ∧ ∀ e ∈ L, e.k.size ≤ maxLen ∧ e.v.size ≤ maxLen := ents_of len fun i hi => by
      obtain ⟨g, o, rfl⟩ : ∃ g o, a = ⟨g, o, none⟩ := by
        obtain ⟨cs', h1, h2⟩ := hall 0 (by omega)
        rw [Nat.zero_mul, add_zero, c2] at h1
        obtain ⟨hl2, hce⟩ := cells_each h1
        match cs', hl2 with
        | [u0, u1], _ =>
          have h7 := hce 0 (by omega)
          rw [add_zero] at h7
          simp only [List.getElem?_cons_zero] at h7
          exact no_spot h7
      obtain ⟨cs', h1, h2⟩ := hall i (by omega)
      rw [c2] at h1
      obtain ⟨hl2, hce⟩ := cells_each h1
      obtain ⟨y0, y1, n2, hy, _, t0, t1⟩ := Go.ChangeShapes.trod_struct2 Try.underlying106 h2
      match cs', hl2 with
      | [u0, u1], _ =>
        change DataW.trod enc Try.prog W 0 (fun _ => true) held n2 9 (([u0, u1].drop 0).take (Try.prog.cellsOf 9)) = some y0 at t0
        change DataW.trod enc Try.prog W 0 (fun _ => true) held n2 9 (([u0, u1].drop 1).take (Try.prog.cellsOf 9)) = some y1 at t1
        rw [c1] at t0 t1
        simp only [List.drop_zero, List.take_succ_cons, List.take_zero, List.drop_succ_cons] at t0 t1
        obtain ⟨x, e0, _, z0⟩ := DataW.trod_string Try.underlying9 t0
        obtain ⟨y, e1, _, z1⟩ := DataW.trod_string Try.underlying9 t1
        simp only [List.cons.injEq, and_true] at e0 e1
        subst e0 e1
        have q0 := hce 0 (by omega)
        have q1 := hce 1 (by omega)
        simp only [List.getElem?_cons_zero, List.getElem?_cons_succ] at q0 q1
        rw [add_zero, Addr.add_lit] at q0
        rw [Addr.add_lit, Addr.add_lit] at q1
        exact ⟨g, o, x, y, rfl, World.block_lt_of_cell? W _ q0, q0, q1, z0, z1⟩
    obtain ⟨L, hL, hrd, hsz⟩ := key
    refine ⟨⟨some a, cap⟩, L, by rw [hL]; exact hcs, ⟨hrd, (fun e => by cases e), by rw [hL]; omega, hsz⟩⟩
/-- an item, by its reading -/
theorem item_of {fuel : Nat} {cs : List Value} {x : DataW H × List MemPlace} (h : DataW.trod enc Try.prog W 0 (fun _ => true) held fuel 26 cs = some x) : ∃ i s, cs = It.list i s ∧ EsR W s i.es ∧ 0 ≤ i.ver := by
  obtain ⟨xs, n2, _, _, hl, hlen, hf⟩ := DataW.trod_struct Try.underlying26 h
  obtain ⟨u0, u1, u2, u3, u4, u5, u6, u7, rfl⟩ := list8 cs (hl.trans (by kernel_rfl))
  obtain ⟨y0, y1, y2, y3, y4, rfl⟩ := list5 xs hlen
  have t0 : DataW.trod enc Try.prog W 0 (fun _ => true) held n2 3 [u0] = some y0 := hf 0 _ rfl
  have t1 : DataW.trod enc Try.prog W 0 (fun _ => true) held n2 22 [u1] = some y1 := hf 1 _ rfl
  have t2 : DataW.trod enc Try.prog W 0 (fun _ => true) held n2 4 [u2] = some y2 := hf 2 _ rfl
  have t3 : DataW.trod enc Try.prog W 0 (fun _ => true) held n2 23 [u3] = some y3 := hf 3 _ rfl
  have t4 : DataW.trod enc Try.prog W 0 (fun _ => true) held n2 24 [u4, u5, u6, u7] = some y4 := hf 4 _ rfl
  obtain ⟨a0, e0, _, _⟩ := DataW.trod_int Try.underlying3 t0
  obtain ⟨a1, e1, _, w1⟩ := DataW.trod_int Try.underlying22 t1
  obtain ⟨a2, e2, _⟩ := DataW.trod_bool Try.underlying4 t2
  obtain ⟨s, es, e3, hes⟩ := entries_of (d := y3.1) (p := y3.2) t3
  obtain ⟨z0, z1, z2, z3, n, _, s0, s1, s2, s3⟩ := trod_array4 Try.underlying24 (by kernel_rfl) t4
  obtain ⟨v0, f0, _, _⟩ := DataW.trod_int Try.underlying22 s0
  obtain ⟨v1, f1, _, _⟩ := DataW.trod_int Try.underlying22 s1
  obtain ⟨v2, f2, _, _⟩ := DataW.trod_int Try.underlying22 s2
  obtain ⟨v3, f3, _, _⟩ := DataW.trod_int Try.underlying22 s3
  simp only [List.cons.injEq, and_true] at e0 e1 e2 e3 f0 f1 f2 f3
  subst e0 e1 e2 e3 f0 f1 f2 f3
  refine ⟨⟨a0, a1, a2, es, v0, v1, v2, v3⟩, s, rfl, hes, ?_⟩
  have h2 : IntKind.u32.min ≤ a1 ∧ a1 ≤ IntKind.u32.max := by simpa [Lit.wf] using w1
  have hm : IntKind.u32.min = 0 := by decide
  show 0 ≤ a1
  omega
/-- a lock, by its reading -/
theorem lock_of {fuel : Nat} {cs : List Value} {x : DataW H × List MemPlace} (h : DataW.trod enc Try.prog W 0 (fun _ => true) held fuel 38 cs = some x) : ∃ l s, cs = Lk.list l s ∧ EsR W s l.it.es ∧ 0 ≤ l.it.ver := by
  obtain ⟨xs, n2, _, _, hl, hlen, hf⟩ := DataW.trod_struct Try.underlying38 h
  obtain ⟨u0, u1, u2, u3, u4, u5, u6, u7, u8, u9, u10, u11, rfl⟩ := list12 cs (hl.trans (by kernel_rfl))
  obtain ⟨y0, y1, y2, rfl⟩ := list3 xs hlen
  have t0 : DataW.trod enc Try.prog W 0 (fun _ => true) held n2 35 [u0] = some y0 := hf 0 _ rfl
  have t1 : DataW.trod enc Try.prog W 0 (fun _ => true) held n2 36 [u1, u2, u3] = some y1 := hf 1 _ rfl
  have t2 : DataW.trod enc Try.prog W 0 (fun _ => true) held n2 26 [u4, u5, u6, u7, u8, u9, u10, u11] = some y2 := hf 2 _ rfl
  obtain ⟨a0, e0, _, _⟩ := DataW.trod_int Try.underlying35 t0
  obtain ⟨z0, z1, z2, n, _, s0, s1, s2⟩ := trod_array3 Try.underlying36 (by kernel_rfl) t1
  obtain ⟨v0, f0, _, _⟩ := DataW.trod_int Try.underlying3 s0
  obtain ⟨v1, f1, _, _⟩ := DataW.trod_int Try.underlying3 s1
  obtain ⟨v2, f2, _, _⟩ := DataW.trod_int Try.underlying3 s2
  obtain ⟨i, s, e2, hes, hv⟩ := item_of t2
  simp only [List.cons.injEq, and_true] at e0 f0 f1 f2 e2
  obtain ⟨g0, g1, g2, g3, g4, g5, g6, g7⟩ := e2
  subst e0 f0 f1 f2 g0 g1 g2 g3 g4 g5 g6 g7
  exact ⟨⟨a0, v0, v1, v2, i⟩, s, rfl, hes, hv⟩
theorem item_arg {d : DataW H} {base : Nat} {v : Value} {p : List MemPlace} (ok : Value.okWide Try.prog W .any base 26 v) (k : DataW.Trod enc Try.prog W 0 (fun _ => true) held 26 v d p) :
    ∃ (i : It) (s : Sd), v = i.ag s ∧ EsR W s i.es := by
  obtain ⟨A, rfl, _⟩ := okWide_struct Try.underlying26 ok
  obtain ⟨fuel, hf⟩ := k
  have hf' : DataW.trod enc Try.prog W 0 (fun _ => true) held fuel 26 A.toList = some (d, p) := hf
  obtain ⟨i, s, e, he, _⟩ := item_of hf'
  refine ⟨i, s, ?_, he⟩
  have : A = (It.list i s).toArray := by rw [← e]
  rw [this]
theorem lock_arg {d : DataW H} {base : Nat} {v : Value} {p : List MemPlace} (ok : Value.okWide Try.prog W .any base 38 v) (k : DataW.Trod enc Try.prog W 0 (fun _ => true) held 38 v d p) :
    ∃ (l : Lk) (s : Sd), v = l.ag s ∧ EsR W s l.it.es := by
  obtain ⟨A, rfl, _⟩ := okWide_struct Try.underlying38 ok
  obtain ⟨fuel, hf⟩ := k
  have hf' : DataW.trod enc Try.prog W 0 (fun _ => true) held fuel 38 A.toList = some (d, p) := hf
  obtain ⟨l, s, e, he, _⟩ := lock_of hf'
  refine ⟨l, s, ?_, he⟩
  have : A = (Lk.list l s).toArray := by rw [← e]
  rw [this]
theorem copy_arg {d : DataW H} {base : Nat} {v : Value} {p : List MemPlace} (ok : Value.okWide Try.prog W .any base 42 v) (k : DataW.Trod enc Try.prog W 0 (fun _ => true) held 42 v d p) :
    ∃ x0 x1 x2 x3 x4 x5 x6 x7 x8 x9 : Value, v = .agg #[x0, x1, x2, x3, x4, x5, x6, x7, x8, x9] := by
  obtain ⟨A, rfl, _⟩ := okWide_struct Try.underlying42 ok
  obtain ⟨fuel, hf⟩ := k
  have hf' : DataW.trod enc Try.prog W 0 (fun _ => true) held fuel 42 A.toList = some (d, p) := hf
  obtain ⟨xs, n2, _, _, hl, _, _⟩ := DataW.trod_struct Try.underlying42 hf'
  obtain ⟨x0, x1, x2, x3, x4, x5, x6, x7, x8, x9, e⟩ := list10 A.toList (hl.trans (by kernel_rfl))
  refine ⟨x0, x1, x2, x3, x4, x5, x6, x7, x8, x9, ?_⟩
  have : A = (#[x0, x1, x2, x3, x4, x5, x6, x7, x8, x9] : Array Value) := by
    apply Array.ext'
    rw [e]
  rw [this]
/-- an op's cells -/
structure OpIs (W : World) (oc : List Value) (kind bk rp of inc : Int) (is : Bool) (l : Lk) (s : Sd) (rest : List Value) : Prop where
  eq : oc = .int .i64 kind :: .int .i64 bk :: .int .i64 rp :: .int .i64 of :: .int .u32 inc :: .bool is :: (Lk.list l s ++ rest)
  len : rest.length = 40
  es : EsR W s l.it.es
  ver : 0 ≤ l.it.ver
  ofw : -9223372036854775808 ≤ of ∧ of ≤ 9223372036854775807
  incw : 0 ≤ inc
/-- n ops of a script lie from ao on -/
def OpsRd (W : World) (ao : Option Addr) (n : Nat) : Prop := ∀ q, q < n → ∃ (g o : Nat) (oc : List Value) (kind bk rp of inc : Int) (is : Bool) (l : Lk) (s : Sd) (rest : List Value), ao = some ⟨g, o, none⟩ ∧ g < W.heap.size ∧ W.rangeAt g (o + q * 58) oc ∧ OpIs W oc kind bk rp of inc is l s rest
theorem op_of {fuel : Nat} {cs : List Value} {x : DataW H × List MemPlace} (h : DataW.trod enc Try.prog W 0 (fun _ => true) held fuel 45 cs = some x) : ∃ kind bk rp of inc is l s rest, OpIs W cs kind bk rp of inc is l s rest := by
  obtain ⟨xs, n, _, _, hl, hlen, hf⟩ := DataW.trod_struct Try.underlying45 h
  have c58 : Try.prog.cellsOf 45 = 58 := by kernel_rfl
  rw [c58] at hl
  obtain ⟨y0, y1, y2, y3, y4, y5, y6, y7, rfl⟩ := list8 xs hlen
  match cs, hl with
  | u0 :: u1 :: u2 :: u3 :: u4 :: u5 :: v0 :: v1 :: v2 :: v3 :: v4 :: v5 :: v6 :: v7 :: v8 :: v9 :: v10 :: v11 :: rest, hl =>
    have t0 : DataW.trod enc Try.prog W 0 (fun _ => true) held n 3 [u0] = some y0 := hf 0 _ rfl
    have t1 : DataW.trod enc Try.prog W 0 (fun _ => true) held n 3 [u1] = some y1 := hf 1 _ rfl
    have t2 : DataW.trod enc Try.prog W 0 (fun _ => true) held n 3 [u2] = some y2 := hf 2 _ rfl
    have t3 : DataW.trod enc Try.prog W 0 (fun _ => true) held n 3 [u3] = some y3 := hf 3 _ rfl
    have t4 : DataW.trod enc Try.prog W 0 (fun _ => true) held n 22 [u4] = some y4 := hf 4 _ rfl
    have t5 : DataW.trod enc Try.prog W 0 (fun _ => true) held n 4 [u5] = some y5 := hf 5 _ rfl
    have t6 : DataW.trod enc Try.prog W 0 (fun _ => true) held n 38 [v0, v1, v2, v3, v4, v5, v6, v7, v8, v9, v10, v11] = some y6 := hf 6 _ rfl
    obtain ⟨a0, e0, _, _⟩ := DataW.trod_int Try.underlying3 t0
    obtain ⟨a1, e1, _, _⟩ := DataW.trod_int Try.underlying3 t1
    obtain ⟨a2, e2, _, _⟩ := DataW.trod_int Try.underlying3 t2
    obtain ⟨a3, e3, _, w3⟩ := DataW.trod_int Try.underlying3 t3
    obtain ⟨a4, e4, _, w4⟩ := DataW.trod_int Try.underlying22 t4
    obtain ⟨a5, e5, _⟩ := DataW.trod_bool Try.underlying4 t5
    obtain ⟨l, s, e6, hes, hv⟩ := lock_of t6
    simp only [List.cons.injEq, and_true] at e0 e1 e2 e3 e4 e5
    subst e0 e1 e2 e3 e4 e5
    refine ⟨a0, a1, a2, a3, a4, a5, l, s, rest, ⟨?_, by simp at hl; omega, hes, hv, ?_, ?_⟩⟩
    · rw [← e6]; rfl
    · have h2 : IntKind.i64.min ≤ a3 ∧ a3 ≤ IntKind.i64.max := by simpa [Lit.wf] using w3
      have hm : IntKind.i64.min = -9223372036854775808 := by decide
      have hx : IntKind.i64.max = 9223372036854775807 := by decide
      omega
    · have h2 : IntKind.u32.min ≤ a4 ∧ a4 ≤ IntKind.u32.max := by simpa [Lit.wf] using w4
      have hm : IntKind.u32.min = 0 := by decide
      omega
theorem ops_arg {ts : List TypeId} {ds : List (DataW H)} (hsz : (DataW.weightsEach Try.prog ts ds).all (· ≤ reachBytes) = true) {d : DataW H} (j : Nat) (ht : ts[j]? = some 29) (hd : ds[j]? = some d)
    {base : Nat} {v : Value} {p : List MemPlace} (ok : Value.okWide Try.prog W .any base 29 v) (k : DataW.Trod enc Try.prog W 0 (fun _ => true) held 29 v d p) :
    ∃ ao n cap, v = .slice ao n cap ∧ n ≤ cap ∧ n ≤ 140737488355328 ∧ OpsRd W ao n := by
  obtain ⟨a0, len0, cap0, rfl⟩ := okWide_slice Try.underlying29 ok
  obtain ⟨fuel, hf⟩ := k
  rcases open_slice Try.underlying29 hf with ⟨hcs, hx⟩ | ⟨a, len, cap, m, f, D, Pl, hcs, hb, hl, hm, hmm, hx, hall⟩
  · have e : Value.slice a0 len0 cap0 = .slice none 0 0 := by simpa [Value.cells] using hcs
    exact ⟨none, 0, 0, e, Nat.le_refl _, by omega, fun i hi => by omega⟩
  · have e : Value.slice a0 len0 cap0 = .slice (some a) len cap := by simpa [Value.cells] using hcs
    simp only [if_true] at hmm
    have c58 : Try.prog.cellsOf 45 = 58 := by kernel_rfl
    have hds : d = .slice ((List.range len).map D) ((List.range (m - len)).map fun j => D (len + j)) := congrArg Prod.fst hx
    refine ⟨some a, len, cap, e, hl, ?_, fun i hi => ?_⟩
    · subst hds
      have hsl := sized_slice hsz ht hd Try.underlying29
      have hby : 1 ≤ Try.prog.bytesOf 45 := of_decide_eq_true (by kernel_rfl)
      have hrb : reachBytes = 140737488351232 := rfl
      simp only [List.length_map, List.length_range] at hsl
      have : (len + (m - len)) * 1 ≤ (len + (m - len)) * Try.prog.bytesOf 45 := Nat.mul_le_mul_left _ hby
      omega
    · obtain ⟨cs', h1, h2⟩ := hall i (by omega)
      rw [c58] at h1
      obtain ⟨hl2, hce⟩ := cells_each h1
      obtain ⟨g, o, rfl⟩ : ∃ g o, a = ⟨g, o, none⟩ := by
        obtain ⟨cs0, h3, _⟩ := hall 0 (by omega)
        rw [Nat.zero_mul, add_zero, c58] at h3
        obtain ⟨hl3, hc3⟩ := cells_each h3
        have h7 := hc3 0 (by omega)
        rw [add_zero, List.getElem?_eq_getElem (by omega)] at h7
        exact no_spot h7
      have hrange : W.rangeAt g (o + i * 58) cs' := fun j v hv => by
        have hj := (List.getElem?_eq_some_iff.1 hv).1
        have h8 := hce j (by omega)
        rw [Addr.add_lit, Addr.add_lit, hv] at h8
        exact h8
      have q0 := hce 0 (by omega)
      rw [List.getElem?_eq_getElem (by omega), add_zero, Addr.add_lit] at q0
      obtain ⟨kind, bk, rp, of, inc, is, l, s, rest, ho⟩ := op_of h2
      exact ⟨g, o, cs', kind, bk, rp, of, inc, is, l, s, rest, rfl, World.block_lt_of_cell? W _ q0, hrange, ho⟩
end
end Go.Proofs.Ytbjcmomicjdepaa
