/- Packets; the map from numbers to packets. -/
import Derived.Test.YthanjfnpohhebaaBs
import Derived.Maps.OwnSet
import Derived.Maps.RangeWalk
namespace Go.Proofs.Ythanjfnpohhebaa
open Go.RowKit
set_option linter.unusedVariables false

/-- a packet: its number, from, to, where its bytes lie, their room, the bytes -/
structure Pkt where
  id : Nat
  fr : Int
  to : Int
  ao : Option Addr
  cap : Nat
  data : List Nat
abbrev Pkt.sl (p : Pkt) : Value := .slice p.ao p.data.length p.cap
abbrev Pkt.cells (p : Pkt) : Array Value := #[.int .u64 (p.id : Int), .int .i64 p.fr, .int .i64 p.to, p.sl]
abbrev agv (p : Pkt) : Value := .agg p.cells
abbrev zcells : Array Value := #[.int .u64 0, .int .i64 0, .int .i64 0, .slice none 0 0]
abbrev zpk : Value := .agg zcells

/-! ### the map -/
theorem mlaw : Maps.Keyed Try.prog 30 := Maps.int_keyed Try.underlying30
theorem zeroE (w : World) : (zeroValue 52).run Try.prog w = .ok zpk w := by kernel_rfl
theorem wf_u64 (n : Nat) (h : n < 18446744073709551616) : (Lit.int .u64 (n : Int)).wf = true := by
  simp [Lit.wf, IntKind.min, IntKind.max, IntKind.signed, IntKind.bits]; omega
abbrev ky (id : Nat) : Lit := .int .u64 (id : Int)
theorem ky_ne {a b : Nat} (h : a ≠ b) : ky a ≠ ky b := by intro e; injection e with _ e; exact h (by omega)
theorem keyIs (id : Nat) (h : id < 18446744073709551616) : keyOf Try.prog 30 (.int .u64 (id : Int)) = some (ky id) := Maps.keyOf_int_mk Try.underlying30 (wf_u64 id h)
/-- a struct reads as itself -/
def tokR : Value → Option (DataW Value × List MemPlace)
  | .agg cs => some (.held (.agg cs), [])
  | _ => none
theorem tokR_inv {v : Value} {y : DataW Value × List MemPlace} (h : tokR v = some y) : y = (.held v, []) ∧ ∃ cs, v = .agg cs := by
  cases v <;> simp [tokR] at h
  exact ⟨h.symm, _, rfl⟩
/-- block gm is a map of n numbers: number id is at f id -/
def MapV (w : World) (gm n : Nat) (f : Nat → Option (Array Value)) : Prop :=
  ∃ D : DataW Value, w.ownsMap Try.prog 30 tokR gm n D ∧ Maps.size D = n ∧
    ∀ id, id < 18446744073709551616 → Maps.has D (ky id) = (f id).isSome ∧ ∀ v, f id = some v → D.atKey (ky id) (.held zpk) = .held (.agg v)
def upd {α : Type} (f : Nat → Option α) (id : Nat) (x : Option α) : Nat → Option α := fun k => if k = id then x else f k
theorem upd_same {α : Type} (f : Nat → Option α) (id : Nat) (x : Option α) : upd f id x id = x := by simp [upd]
theorem upd_other {α : Type} (f : Nat → Option α) {id k : Nat} (x : Option α) (h : k ≠ id) : upd f id x k = f k := by simp [upd, h]
theorem keep_turned {w w' : World} {gm : Nat} (h : w.mapTurned w' gm) : Keep [gm] w w' := by
  have g := h.grown
  exact ⟨g.os, g.tape, g.output, g.size, fun k hk hn => g.block k hk (by simp at hn ⊢; exact hn)⟩
section
variable {w w' : World} {gm n : Nat} {f : Nat → Option (Array Value)}
theorem MapV.lt (h : MapV w gm n f) : gm < w.heap.size := by obtain ⟨D, h1, _⟩ := h; exact h1.lt
theorem MapV.keep {S : List Nat} (h : MapV w gm n f) (k : Keep S w w') (hn : gm ∉ S) : MapV w' gm n f := by
  have hl := h.lt
  obtain ⟨D, ⟨es, clock, hb, h1⟩, h2⟩ := h
  exact ⟨D, ⟨es, clock, (k.block gm hl hn).trans hb, h1⟩, h2⟩
theorem MapV.made (w : World) : MapV (w.alloc (.map #[] 0)) w.heap.size 0 (fun _ => none) :=
  ⟨.map [], World.ownsMap_made _ _ _ _, rfl, fun id _ => ⟨rfl, fun i h => by cases h⟩⟩
theorem MapV.like {f' : Nat → Option (Array Value)} (h : MapV w gm n f) (hf : ∀ id, id < 18446744073709551616 → f' id = f id) : MapV w gm n f' := by
  obtain ⟨D, h1, h2, h3⟩ := h
  exact ⟨D, h1, h2, fun id hid => by rw [hf id hid]; exact h3 id hid⟩
/-- v, ok := m[id] -/
theorem MapV.look (h : MapV w gm n f) (id : Nat) (hid : id < 18446744073709551616) :
    (Instr.lookup 60 (.map (some gm)) (.int .u64 (id : Int)) true).run Try.prog w = .ok (.tuple #[((f id).map Value.agg).getD zpk, .bool (f id).isSome]) w := by
  obtain ⟨D, h1, h2, h3⟩ := h
  obtain ⟨h4, h5⟩ := h3 id hid
  obtain ⟨v, ps, hr, hv⟩ := h1.look_ok mlaw Try.underlying60 (zeroE w) (rfl : tokR zpk = some (.held zpk, [])) (keyIs id hid)
  obtain ⟨e, _⟩ := tokR_inv hv
  have e2 := congrArg Prod.fst e
  simp only at e2
  cases hf : f id with
  | none =>
    rw [hf] at h4
    rw [Maps.atKey_of_not_has h4] at e2
    cases e2
    rw [hr, h4]; rfl
  | some i =>
    rw [hf] at h4
    rw [h5 i hf] at e2
    cases e2
    rw [hr, h4]; rfl
/-- m[id] = v -/
theorem MapV.put (h : MapV w gm n f) (id : Nat) (v : Array Value) (hid : id < 18446744073709551616) (hn : n < 1000000) :
    ∃ w', (Instr.mapUpdate 60 (.map (some gm)) (.int .u64 (id : Int)) (.agg v)).run Try.prog w = .ok () w' ∧ MapV w' gm (if (f id).isSome then n else n + 1) (upd f id (some v)) ∧ Keep [gm] w w' := by
  obtain ⟨D, h1, h2, h3⟩ := h
  obtain ⟨w', hr, h4, h5⟩ := h1.store mlaw Try.underlying60 (by unfold maxLen; omega) (keyIs id hid) (rfl : tokR (.agg v) = some (.held (.agg v), []))
  refine ⟨w', hr, ⟨D.put (ky id) (.held (.agg v)), ?_, ?_, fun k hk => ?_⟩, keep_turned h5⟩
  · have hs := Maps.size_put (h1.tidy mlaw) (k := ky id) (.held (.agg v))
    rw [(h3 id hid).1, h2] at hs
    obtain ⟨es, clock, hb, F, hsz, hD⟩ := h4
    refine ⟨es, clock, hb, F, ?_, hD⟩
    rw [← hs, hD]
    simp [Maps.size, length_sorted]
  · rw [Maps.size_put (h1.tidy mlaw), (h3 id hid).1, h2]
  · by_cases e : k = id
    · subst e
      have hk2 : WideAt.IsKeyLit (ky k) := by simp [WideAt.IsKeyLit]
      rw [Maps.has_put_same h1.isMap hk2, upd_same]
      refine ⟨rfl, fun j hj => ?_⟩
      cases hj
      exact Maps.atKey_put_same h1.isMap hk2 _ _
    · rw [Maps.has_put_other (ky_ne e), upd_other _ _ e]
      refine ⟨(h3 k hk).1, fun j hj => ?_⟩
      rw [Maps.atKey_put_other (ky_ne e)]
      exact (h3 k hk).2 j hj
/-- delete(m, id) -/
theorem MapV.del (h : MapV w gm n f) (id : Nat) (hid : id < 18446744073709551616) (ty : TypeId) :
    ∃ w', (Builtin.delete_ #[60, 30] ty #[.map (some gm), .int .u64 (id : Int)]).run Try.prog w = .ok (.tuple #[]) w' ∧ MapV w' gm (if (f id).isSome then n - 1 else n) (upd f id none) ∧ Keep [gm] w w' := by
  obtain ⟨D, h1, h2, h3⟩ := h
  obtain ⟨w', hr, h4, h5⟩ := h1.drop mlaw Try.underlying60 (keyIs id hid) ty
  have hs := Maps.size_del (h1.tidy mlaw) (k := ky id)
  rw [(h3 id hid).1, h2] at hs
  have hs2 : Maps.size (D.del (ky id)) = if (f id).isSome then n - 1 else n := by
    split at hs
    · rename_i h; rw [if_pos h]; omega
    · rename_i h; rw [if_neg h]; omega
  refine ⟨w', hr, ⟨D.del (ky id), ?_, hs2, fun k hk => ?_⟩, keep_turned h5⟩
  · obtain ⟨es, clock, hb, F, hsz, hD⟩ := h4
    refine ⟨es, clock, hb, F, ?_, hD⟩
    rw [← hs2, hD]
    simp [Maps.size, length_sorted]
  · by_cases e : k = id
    · subst e
      rw [Maps.has_del_same, upd_same]
      exact ⟨rfl, fun j hj => by cases hj⟩
    · rw [Maps.has_del_other (ky_ne e), upd_other _ _ e]
      refine ⟨(h3 k hk).1, fun j hj => ?_⟩
      rw [Maps.atKey_del_other (ky_ne e)]
      exact (h3 k hk).2 j hj
/-- len(m) -/
theorem MapV.len (h : MapV w gm n f) (ty : TypeId) : (Builtin.len_ #[60] ty #[.map (some gm)]).run Try.prog w = .ok (.int .i64 (n : Int)) w := by
  obtain ⟨D, h1, h2, h3⟩ := h
  have := h1.len Try.underlying60 ty
  rw [h2] at this
  exact this
end
end Go.Proofs.Ythanjfnpohhebaa
