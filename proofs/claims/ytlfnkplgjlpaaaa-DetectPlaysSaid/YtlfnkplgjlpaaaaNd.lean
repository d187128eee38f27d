/- Nodes; the map from numbers to nodes. -/
import Derived.Test.YtlfnkplgjlpaaaaBi
import Derived.Maps.OwnSet
import Derived.Lib.SlKeysI
namespace Go.Proofs.Ytlfnkplgjlpaaaa
open Go.RowKit
set_option linter.unusedVariables false

/-- what is kept of a node: its number, heard last, mean, margin, told as suspected -/
structure Nd where
  id : Int
  last : Nat
  mean : Nat
  margin : Nat
  bad : Bool
deriving DecidableEq
abbrev Nd.cells (n : Nd) : Array Value := #[.int .i64 (n.last : Int), .int .i64 (n.mean : Int), .int .i64 (n.margin : Int), .bool n.bad]
abbrev agv (n : Nd) : Value := .agg n.cells
abbrev zcells : Array Value := #[.int .i64 0, .int .i64 0, .int .i64 0, .bool false]
abbrev znd : Value := .agg zcells
/-- fits -/
structure Nd.Ok (n : Nd) : Prop where
  id0 : 0 ≤ n.id
  id1 : n.id ≤ 255
  last : n.last ≤ 1099511627776
  mean : n.mean ≤ 32775
  marg : n.margin ≤ 4096
def Nd.wait (n : Nd) : Nat := max 4 (min (n.mean / 8 + n.margin) 4096)
def Nd.sil (n : Nd) (now : Nat) : Nat := max now n.last - n.last
def Nd.susp (n : Nd) (now : Nat) : Bool := decide (n.wait < n.sil now)
def Nd.heard (n : Nd) (now : Nat) : Nd :=
  { n with last := max n.last now, mean := n.mean + min (n.sil now) 4096 - n.mean / 8, margin := if n.susp now then min (2 * n.margin) 4096 else n.margin }
def Nd.judged (n : Nd) (now : Nat) : Nd := { n with bad := n.susp now }
theorem Nd.wait_lo (n : Nd) : 4 ≤ n.wait := by unfold Nd.wait; omega
theorem Nd.wait_hi (n : Nd) : n.wait ≤ 4096 := by unfold Nd.wait; omega
theorem Nd.Ok.heard {n : Nd} (h : n.Ok) {now : Nat} (hn : now ≤ 1099511627776) : (n.heard now).Ok := by
  obtain ⟨h1, h2, h3, h4, h5⟩ := h
  refine ⟨h1, h2, ?_, ?_, ?_⟩
  · show max n.last now ≤ _; omega
  · show n.mean + min (n.sil now) 4096 - n.mean / 8 ≤ _; omega
  · show (if n.susp now then min (2 * n.margin) 4096 else n.margin) ≤ _; split <;> omega
theorem Nd.Ok.judged {n : Nd} (h : n.Ok) (now : Nat) : (n.judged now).Ok := ⟨h.id0, h.id1, h.last, h.mean, h.marg⟩

/-! ### the map -/
theorem mlaw : Maps.Keyed Try.prog 3 := Maps.int_keyed Try.underlying3
theorem zeroE (w : World) : (zeroValue 76).run Try.prog w = .ok znd w := by kernel_rfl
abbrev ky (id : Int) : Lit := .int .i64 id
theorem ky_ne {a b : Int} (h : a ≠ b) : ky a ≠ ky b := by intro e; injection e with _ e; exact h e
theorem keyIs (id : Int) (h : (Lit.int .i64 id).wf = true) : keyOf Try.prog 3 (.int .i64 id) = some (ky id) := Maps.keyOf_int_mk Try.underlying3 h
/-- a struct reads as itself -/
def tokR : Value → Option (DataW Value × List MemPlace)
  | .agg cs => some (.held (.agg cs), [])
  | _ => none
theorem tokR_inv {v : Value} {y : DataW Value × List MemPlace} (h : tokR v = some y) : y = (.held v, []) ∧ ∃ cs, v = .agg cs := by
  cases v <;> simp [tokR] at h
  exact ⟨h.symm, _, rfl⟩
/-- block gm is a map of n numbers: number id is at f id -/
def MapV (w : World) (gm n : Nat) (f : Int → Option (Array Value)) : Prop :=
  ∃ D : DataW Value, w.ownsMap Try.prog 3 tokR gm n D ∧ Maps.size D = n ∧
    ∀ id, Maps.has D (ky id) = (f id).isSome ∧ ∀ v, f id = some v → D.atKey (ky id) (.held znd) = .held (.agg v)
def upd {α : Type} (f : Int → Option α) (id : Int) (x : Option α) : Int → Option α := fun k => if k = id then x else f k
theorem upd_same {α : Type} (f : Int → Option α) (id : Int) (x : Option α) : upd f id x id = x := by simp [upd]
theorem upd_other {α : Type} (f : Int → Option α) {id k : Int} (x : Option α) (h : k ≠ id) : upd f id x k = f k := by simp [upd, h]
theorem keep_turned {w w' : World} {gm : Nat} (h : w.mapTurned w' gm) : Keep [gm] w w' := by
  have g := h.grown
  exact ⟨g.os, g.tape, g.output, g.size, fun k hk hn => g.block k hk (by simp at hn ⊢; exact hn)⟩
section
variable {w w' : World} {gm n : Nat} {f : Int → Option (Array Value)}
theorem MapV.lt (h : MapV w gm n f) : gm < w.heap.size := by obtain ⟨D, h1, _⟩ := h; exact h1.lt
theorem MapV.keep {S : List Nat} (h : MapV w gm n f) (k : Keep S w w') (hn : gm ∉ S) : MapV w' gm n f := by
  have hl := h.lt
  obtain ⟨D, ⟨es, clock, hb, h1⟩, h2⟩ := h
  exact ⟨D, ⟨es, clock, (k.block gm hl hn).trans hb, h1⟩, h2⟩
theorem MapV.made (w : World) : MapV (w.alloc (.map #[] 0)) w.heap.size 0 (fun _ => none) :=
  ⟨.map [], World.ownsMap_made _ _ _ _, rfl, fun id => ⟨rfl, fun i h => by cases h⟩⟩
/-- v, ok := m[id] -/
theorem MapV.look (h : MapV w gm n f) (id : Int) (hid : (Lit.int .i64 id).wf = true) :
    (Instr.lookup 65 (.map (some gm)) (.int .i64 id) true).run Try.prog w = .ok (.tuple #[((f id).map Value.agg).getD znd, .bool (f id).isSome]) w := by
  obtain ⟨D, h1, h2, h3⟩ := h
  obtain ⟨h4, h5⟩ := h3 id
  obtain ⟨v, ps, hr, hv⟩ := h1.look_ok mlaw Try.underlying65 (zeroE w) (rfl : tokR znd = some (.held znd, [])) (keyIs id hid)
  obtain ⟨e, _⟩ := tokR_inv hv
  have e2 := congrArg Prod.fst e
  simp only at e2
  cases hf : f id with
  | none =>
    rw [hf] at h4
    rw [Maps.atKey_of_not_has h4] at e2
    cases e2
    rw [hr, h4]; rfl
  | some i =>
    rw [hf] at h4
    rw [h5 i hf] at e2
    cases e2
    rw [hr, h4]; rfl
/-- m[id] -/
theorem MapV.look1 (h : MapV w gm n f) (id : Int) (hid : (Lit.int .i64 id).wf = true) :
    (Instr.lookup 65 (.map (some gm)) (.int .i64 id) false).run Try.prog w = .ok (((f id).map Value.agg).getD znd) w := by
  obtain ⟨D, h1, h2, h3⟩ := h
  obtain ⟨h4, h5⟩ := h3 id
  obtain ⟨v, ps, hr, hv⟩ := h1.lookup mlaw Try.underlying65 (zeroE w) (rfl : tokR znd = some (.held znd, [])) (keyIs id hid)
  obtain ⟨e, _⟩ := tokR_inv hv
  have e2 := congrArg Prod.fst e
  simp only at e2
  cases hf : f id with
  | none =>
    rw [hf] at h4
    rw [Maps.atKey_of_not_has h4] at e2
    cases e2
    rw [hr]; rfl
  | some i =>
    rw [h5 i hf] at e2
    cases e2
    rw [hr]; rfl
/-- m[id] = v -/
theorem MapV.put (h : MapV w gm n f) (id : Int) (v : Array Value) (hid : (Lit.int .i64 id).wf = true) (hn : n < 1000000) :
    ∃ w', (Instr.mapUpdate 65 (.map (some gm)) (.int .i64 id) (.agg v)).run Try.prog w = .ok () w' ∧ MapV w' gm (if (f id).isSome then n else n + 1) (upd f id (some v)) ∧ Keep [gm] w w' := by
  obtain ⟨D, h1, h2, h3⟩ := h
  obtain ⟨w', hr, h4, h5⟩ := h1.store mlaw Try.underlying65 (by unfold maxLen; omega) (keyIs id hid) (rfl : tokR (.agg v) = some (.held (.agg v), []))
  refine ⟨w', hr, ⟨D.put (ky id) (.held (.agg v)), ?_, ?_, fun k => ?_⟩, keep_turned h5⟩
  · have hs := Maps.size_put (h1.tidy mlaw) (k := ky id) (.held (.agg v))
    rw [(h3 id).1, h2] at hs
    obtain ⟨es, clock, hb, F, hsz, hD⟩ := h4
    refine ⟨es, clock, hb, F, ?_, hD⟩
    rw [← hs, hD]
    simp [Maps.size, length_sorted]
  · rw [Maps.size_put (h1.tidy mlaw), (h3 id).1, h2]
  · by_cases e : k = id
    · subst e
      have hk2 : WideAt.IsKeyLit (ky k) := by simp [WideAt.IsKeyLit]
      rw [Maps.has_put_same h1.isMap hk2, upd_same]
      refine ⟨rfl, fun j hj => ?_⟩
      cases hj
      exact Maps.atKey_put_same h1.isMap hk2 _ _
    · rw [Maps.has_put_other (ky_ne e), upd_other _ _ e]
      refine ⟨(h3 k).1, fun j hj => ?_⟩
      rw [Maps.atKey_put_other (ky_ne e)]
      exact (h3 k).2 j hj
/-- delete(m, id) -/
theorem MapV.del (h : MapV w gm n f) (id : Int) (hid : (Lit.int .i64 id).wf = true) (ty : TypeId) :
    ∃ w', (Builtin.delete_ #[65, 3] ty #[.map (some gm), .int .i64 id]).run Try.prog w = .ok (.tuple #[]) w' ∧ MapV w' gm (if (f id).isSome then n - 1 else n) (upd f id none) ∧ Keep [gm] w w' := by
  obtain ⟨D, h1, h2, h3⟩ := h
  obtain ⟨w', hr, h4, h5⟩ := h1.drop mlaw Try.underlying65 (keyIs id hid) ty
  have hs := Maps.size_del (h1.tidy mlaw) (k := ky id)
  rw [(h3 id).1, h2] at hs
  have hs2 : Maps.size (D.del (ky id)) = if (f id).isSome then n - 1 else n := by
    split at hs
    · rename_i h; rw [if_pos h]; omega
    · rename_i h; rw [if_neg h]; omega
  refine ⟨w', hr, ⟨D.del (ky id), ?_, hs2, fun k => ?_⟩, keep_turned h5⟩
  · obtain ⟨es, clock, hb, F, hsz, hD⟩ := h4
    refine ⟨es, clock, hb, F, ?_, hD⟩
    rw [← hs2, hD]
    simp [Maps.size, length_sorted]
  · by_cases e : k = id
    · subst e
      rw [Maps.has_del_same, upd_same]
      exact ⟨rfl, fun j hj => by cases hj⟩
    · rw [Maps.has_del_other (ky_ne e), upd_other _ _ e]
      refine ⟨(h3 k).1, fun j hj => ?_⟩
      rw [Maps.atKey_del_other (ky_ne e)]
      exact (h3 k).2 j hj
/-- len(m) -/
theorem MapV.len (h : MapV w gm n f) (ty : TypeId) : (Builtin.len_ #[65] ty #[.map (some gm)]).run Try.prog w = .ok (.int .i64 (n : Int)) w := by
  obtain ⟨D, h1, h2, h3⟩ := h
  have := h1.len Try.underlying65 ty
  rw [h2] at this
  exact this
end

/-! ### lists of nodes -/
def look (S : List Nd) (id : Int) : Option Nd := S.find? fun p => p.id == id
def fmap (S : List Nd) : Int → Option (Array Value) := fun id => (look S id).map Nd.cells
theorem look_some {S : List Nd} {id : Int} {p : Nd} (h : look S id = some p) : p ∈ S ∧ p.id = id := by
  refine ⟨List.mem_of_find?_eq_some h, ?_⟩
  have := List.find?_some h
  simpa using this
theorem look_none {S : List Nd} {id : Int} (h : look S id = none) : ∀ p ∈ S, p.id ≠ id := by
  intro p hp e
  have := List.find?_eq_none.1 h p hp
  simp [e] at this
/-- numbers rise -/
def Inc (S : List Nd) : Prop := S.Pairwise (fun p q => p.id < q.id)
theorem Inc.one {S : List Nd} (h : Inc S) {p q : Nd} (hp : p ∈ S) (hq : q ∈ S) (e : p.id = q.id) : p = q := by
  induction S with
  | nil => cases hp
  | cons x r ih =>
    obtain ⟨h1, h2⟩ := List.pairwise_cons.1 h
    rcases List.mem_cons.1 hp with rfl | hp' <;> rcases List.mem_cons.1 hq with rfl | hq'
    · rfl
    · have := h1 q hq'; omega
    · have := h1 p hp'; omega
    · exact ih h2 hp' hq'
theorem Inc.look {S : List Nd} (h : Inc S) {p : Nd} (hp : p ∈ S) : look S p.id = some p := by
  cases hl : Ytlfnkplgjlpaaaa.look S p.id with
  | none => exact absurd rfl (look_none hl p hp)
  | some q =>
    obtain ⟨h1, h2⟩ := look_some hl
    rw [h.one h1 hp h2]
/-- without node id -/
def wo (S : List Nd) (id : Int) : List Nd := S.filter fun p => p.id != id
theorem wo_mem {S : List Nd} {id : Int} {p : Nd} : p ∈ wo S id ↔ p ∈ S ∧ p.id ≠ id := by simp [wo]
theorem wo_inc {S : List Nd} (h : Inc S) (id : Int) : Inc (wo S id) := h.sublist List.filter_sublist
theorem look_wo {S : List Nd} {id k : Int} : look (wo S id) k = if k = id then none else look S k := by
  unfold look wo
  rw [List.find?_filter]
  by_cases e : k = id
  · subst e
    rw [if_pos rfl, List.find?_eq_none]
    intro x _
    simp
  · rw [if_neg e]
    congr 1
    funext p
    by_cases h2 : p.id = k
    · simp [h2, e]
    · have : (p.id == k) = false := by simp [h2]
      rw [this]; simp
theorem wo_len {S : List Nd} (h : Inc S) {id : Int} {p : Nd} (hl : look S id = some p) : (wo S id).length + 1 = S.length := by
  induction S with
  | nil => cases hl
  | cons x r ih =>
    obtain ⟨h1, h2⟩ := List.pairwise_cons.1 h
    by_cases e : x.id = id
    · have : wo (x :: r) id = r := by
        unfold wo
        rw [List.filter_cons_of_neg (by simp [e])]
        rw [List.filter_eq_self.2]
        intro y hy
        have := h1 y hy
        simp; omega
      rw [this]; rfl
    · have h3 : look r id = some p := by
        unfold look at hl ⊢
        rw [List.find?_cons_of_neg (by simp [e])] at hl
        exact hl
      have : wo (x :: r) id = x :: wo r id := by
        unfold wo
        rw [List.filter_cons_of_pos (by simp [e])]
      rw [this, List.length_cons, List.length_cons, ih h2 h3]
theorem fmap_wo (S : List Nd) (id : Int) : upd (fmap S) id none = fmap (wo S id) := by
  funext k
  unfold upd fmap
  rw [look_wo]
  split <;> rfl
/-- one node more, in its place -/
def ins (n : Nd) : List Nd → List Nd
  | [] => [n]
  | x :: r => if n.id < x.id then n :: x :: r else x :: ins n r
theorem ins_mem {n : Nd} : ∀ {S : List Nd} {x : Nd}, x ∈ ins n S ↔ x = n ∨ x ∈ S
  | [], x => by simp [ins]
  | y :: r, x => by
    unfold ins
    split
    · simp
    · simp only [List.mem_cons, ins_mem]
      constructor
      · rintro (h | h | h)
        · exact .inr (.inl h)
        · exact .inl h
        · exact .inr (.inr h)
      · rintro (h | h | h)
        · exact .inr (.inl h)
        · exact .inl h
        · exact .inr (.inr h)
theorem ins_len (n : Nd) : ∀ S : List Nd, (ins n S).length = S.length + 1
  | [] => rfl
  | y :: r => by
    unfold ins
    split
    · simp
    · simp [ins_len n r]
theorem ins_inc {n : Nd} : ∀ {S : List Nd}, Inc S → (∀ x ∈ S, x.id ≠ n.id) → Inc (ins n S)
  | [], _, _ => List.pairwise_singleton _ _
  | y :: r, h, hn => by
    obtain ⟨h1, h2⟩ := List.pairwise_cons.1 h
    unfold ins
    split
    · rename_i hlt
      refine List.pairwise_cons.2 ⟨fun x hx => ?_, h⟩
      rcases List.mem_cons.1 hx with rfl | hx
      · exact hlt
      · have := h1 x hx; omega
    · rename_i hlt
      refine List.pairwise_cons.2 ⟨fun x hx => ?_, ins_inc h2 fun x hx => hn x (by simp [hx])⟩
      rcases ins_mem.1 hx with rfl | hx
      · have := hn y (by simp); omega
      · exact h1 x hx
theorem look_eq {S T : List Nd} (hS : Inc S) (hT : Inc T) {k : Int} (h : ∀ x, x.id = k → (x ∈ S ↔ x ∈ T)) : look S k = look T k := by
  cases hl : look S k with
  | none =>
    cases hm : look T k with
    | none => rfl
    | some q =>
      obtain ⟨h1, h2⟩ := look_some hm
      exact absurd h2 (look_none hl q ((h q h2).2 h1))
  | some p =>
    obtain ⟨h1, h2⟩ := look_some hl
    have := hT.look ((h p h2).1 h1)
    rw [h2] at this
    exact this.symm
theorem look_ins {S : List Nd} {n : Nd} {k : Int} (hS : Inc S) (hn : ∀ x ∈ S, x.id ≠ n.id) : look (ins n S) k = if k = n.id then some n else look S k := by
  by_cases e : k = n.id
  · subst e
    rw [if_pos rfl]
    exact (ins_inc hS hn).look (ins_mem.2 (.inl rfl))
  · rw [if_neg e]
    refine look_eq (ins_inc hS hn) hS fun x hx => ?_
    rw [ins_mem]
    constructor
    · rintro (rfl | h)
      · exact absurd hx.symm e
      · exact h
    · exact .inr
theorem fmap_ins (S : List Nd) (p : Nd) (hS : Inc S) (hn : ∀ x ∈ S, x.id ≠ p.id) : upd (fmap S) p.id (some p.cells) = fmap (ins p S) := by
  funext k
  unfold upd fmap
  rw [look_ins hS hn]
  split <;> rfl
/-- a node laid anew -/
def putN (n : Nd) (S : List Nd) : List Nd := S.map fun x => if x.id = n.id then n else x
theorem putN_len (n : Nd) (S : List Nd) : (putN n S).length = S.length := by simp [putN]
theorem putN_ids (n : Nd) (S : List Nd) : (putN n S).map (·.id) = S.map (·.id) := by
  unfold putN
  rw [List.map_map]
  refine List.map_congr_left fun x _ => ?_
  show (if x.id = n.id then n else x).id = x.id
  split
  · rename_i e; exact e.symm
  · rfl
theorem inc_ids {S T : List Nd} (h : S.map (·.id) = T.map (·.id)) (hS : Inc S) : Inc T := by
  have h1 : (S.map (·.id)).Pairwise (· < ·) := List.pairwise_map.2 hS
  rw [h] at h1
  exact List.pairwise_map.1 h1
theorem putN_inc {n : Nd} {S : List Nd} (hS : Inc S) : Inc (putN n S) := inc_ids (putN_ids n S).symm hS
theorem putN_mem {n : Nd} {S : List Nd} {x : Nd} (h : x ∈ putN n S) : x = n ∨ (x ∈ S ∧ x.id ≠ n.id) := by
  obtain ⟨y, hy, rfl⟩ := List.mem_map.1 h
  split
  · exact .inl rfl
  · rename_i e; exact .inr ⟨hy, e⟩
theorem look_putN {S : List Nd} {n : Nd} {k : Int} (hS : Inc S) {p : Nd} (hl : look S n.id = some p) : look (putN n S) k = if k = n.id then some n else look S k := by
  obtain ⟨h1, h2⟩ := look_some hl
  by_cases e : k = n.id
  · subst e
    rw [if_pos rfl]
    exact (putN_inc hS).look (List.mem_map.2 ⟨p, h1, by rw [if_pos h2]⟩)
  · rw [if_neg e]
    refine look_eq (putN_inc hS) hS fun x hx => ?_
    constructor
    · intro h
      rcases putN_mem h with rfl | ⟨h, _⟩
      · exact absurd hx.symm e
      · exact h
    · intro h
      exact List.mem_map.2 ⟨x, h, by rw [if_neg (by rw [hx]; exact e)]⟩
theorem fmap_putN (S : List Nd) (n : Nd) (hS : Inc S) {p : Nd} (hl : look S n.id = some p) : upd (fmap S) n.id (some n.cells) = fmap (putN n S) := by
  funext k
  unfold upd fmap
  rw [look_putN hS hl]
  split <;> rfl
end Go.Proofs.Ytlfnkplgjlpaaaa
