/- Instances, ballots, what was accepted; the map of a table. -/
import Derived.Test.YtgfalpiifgoonaaRow
import Derived.Test.YtgfalpiifgoonaaQTail
import Derived.Maps.OwnSet
import Derived.DeepKeys3
import Derived.Laws.StructEq
namespace Go.Proofs.Ytgfalpiifgoonaa
open Go.RowKit
set_option linter.unusedVariables false
set_option maxRecDepth 100000

structure In where
  tx : Int
  b : Int
  r : Int
  x : Int
deriving DecidableEq
structure Bl where
  round : Int
  node : Int
deriving DecidableEq
structure Ac where
  is : Bool
  b : Bl
  v : ByteArray
deriving DecidableEq
structure Rw where
  p : Bl
  a : Ac
abbrev In.cells (i : In) : Array Value := #[.int .u64 i.tx, .int .i64 i.b, .int .i64 i.r, .int .u32 i.x]
abbrev In.ag (i : In) : Value := .agg #[.int .u64 i.tx, .int .i64 i.b, .int .i64 i.r, .int .u32 i.x]
abbrev Bl.ag (b : Bl) : Value := .agg #[.int .u32 b.round, .int .u8 b.node]
abbrev Ac.ag (a : Ac) : Value := .agg #[.bool a.is, .int .u32 a.b.round, .int .u8 a.b.node, .string a.v]
abbrev Rw.ag (r : Rw) : Value := .agg #[.int .u32 r.p.round, .int .u8 r.p.node, .bool r.a.is, .int .u32 r.a.b.round, .int .u8 r.a.b.node, .string r.a.v]
abbrev In.obj (i : In) : Obj := .cells #[.int .u64 i.tx, .int .i64 i.b, .int .i64 i.r, .int .u32 i.x] 110
abbrev Bl.obj (b : Bl) : Obj := .cells #[.int .u32 b.round, .int .u8 b.node] 34
abbrev Ac.obj (a : Ac) : Obj := .cells #[.bool a.is, .int .u32 a.b.round, .int .u8 a.b.node, .string a.v] 42
abbrev Rw.obj (r : Rw) : Obj := .cells #[.int .u32 r.p.round, .int .u8 r.p.node, .bool r.a.is, .int .u32 r.a.b.round, .int .u8 r.a.b.node, .string r.a.v] 114
abbrev b0 : Bl := ⟨0, 0⟩
abbrev a0 : Ac := ⟨false, b0, ⟨#[]⟩⟩
abbrev r0 : Rw := ⟨b0, a0⟩
structure In.Ok (i : In) : Prop where
  tx : (Lit.int .u64 i.tx).wf = true
  b : (Lit.int .i64 i.b).wf = true
  r : (Lit.int .i64 i.r).wf = true
  x : (Lit.int .u32 i.x).wf = true
/-- ballot b is below p -/
def low (b p : Bl) : Bool := decide (b.round < p.round) || (decide (b.round = p.round) && decide (b.node < p.node))

/-! ### keys -/
theorem wideIn : (match Try.prog.underlying 110 with | some (.array _ _) | some (.struct _) => true | _ => false) = true := by kernel_rfl
theorem mlaw : Maps.Keyed Try.prog 110 := Maps.Keyed.of_law (deep_law (m := 3) (by omega) (by kernel_rfl) (by kernel_rfl) wideIn)
theorem keyT : Try.prog.keyType 110 = true := by kernel_rfl
theorem cellsIn : Try.prog.cellsOf 110 = 4 := by kernel_rfl
theorem c1a : Try.prog.cellsOf 108 = 1 := by kernel_rfl
theorem c1b : Try.prog.cellsOf 3 = 1 := by kernel_rfl
theorem c1c : Try.prog.cellsOf 32 = 1 := by kernel_rfl
theorem ty2 : ∃ m, Try.prog.types.size + 1 = m + 2 := ⟨Try.prog.types.size - 1, by have : 1 ≤ Try.prog.types.size := of_decide_eq_true (by kernel_rfl); omega⟩
theorem keyEx (i : In) (h : i.Ok) : ∃ l, keyOf Try.prog 110 i.ag = some l := by
  obtain ⟨h1, h2, h3, h4⟩ := h
  obtain ⟨m, hm⟩ := ty2
  have hu := Try.underlying110
  unfold keyOf
  rw [hu]
  simp only
  rw [keyT]
  have hf : i.ag.formed Try.prog 110 = true := by simp [Value.formed, hu, cellsIn]
  rw [hf, hm]
  simp only [Bool.and_self, if_true]
  unfold Program.keyLits
  rw [hu]
  simp [Value.cells, cellsIn, Program.keyLits, Try.underlying108, Try.underlying3, Try.underlying32, c1a, c1b, c1c, h1, h2, h3, h4]
/-- the key of an instance -/
def kyOf (P : Program) (t : TypeId) (v : Value) : Lit := (keyOf P t v).getD (.bool false)
def ky (P : Program) (i : In) : Lit := kyOf P 110 i.ag
theorem keyIs (i : In) (h : i.Ok) : keyOf Try.prog 110 i.ag = some (ky Try.prog i) := by
  obtain ⟨l, hl⟩ := keyEx i h
  unfold ky kyOf
  rw [hl]; rfl
theorem ky_ne {i j : In} (hi : i.Ok) (hj : j.Ok) (h : i ≠ j) : ky Try.prog i ≠ ky Try.prog j := by
  intro e
  have h1 := keyIs i hi
  rw [e] at h1
  have := mlaw.inj h1 (keyIs j hj)
  apply h
  obtain ⟨a, b, c, d⟩ := i
  obtain ⟨a', b', c', d'⟩ := j
  simp at this
  simp [this]
theorem ky_lit (i : In) (h : i.Ok) : WideAt.IsKeyLit (ky Try.prog i) := mlaw.key (keyIs i h)

/-! ### the map -/
theorem zeroE (w : World) : (zeroValue 114).run Try.prog w = .ok r0.ag w := by kernel_rfl
/-- a struct reads as itself -/
def tokR : Value → Option (DataW Value × List MemPlace)
  | .agg cs => some (.held (.agg cs), [])
  | _ => none
theorem tokR_inv {v : Value} {y : DataW Value × List MemPlace} (h : tokR v = some y) : y = (.held v, []) ∧ ∃ cs, v = .agg cs := by
  cases v <;> simp [tokR] at h
  exact ⟨h.symm, _, rfl⟩
/-- what is kept, by instance -/
abbrev Fn := In → Option Rw
def MapV (w : World) (gm n : Nat) (f : Fn) : Prop :=
  ∃ D : DataW Value, w.ownsMap Try.prog 110 tokR gm n D ∧ Maps.size D = n ∧
    ∀ i : In, i.Ok → Maps.has D (ky Try.prog i) = (f i).isSome ∧ ∀ v, f i = some v → D.atKey (ky Try.prog i) (.held r0.ag) = .held v.ag
def upd (f : Fn) (i : In) (x : Option Rw) : Fn := fun k => if k = i then x else f k
theorem upd_same (f : Fn) (i : In) (x : Option Rw) : upd f i x i = x := by simp [upd]
theorem upd_other (f : Fn) {i k : In} (x : Option Rw) (h : k ≠ i) : upd f i x k = f k := by simp [upd, h]
theorem keep_turned {w w' : World} {gm : Nat} (h : w.mapTurned w' gm) : Keep [gm] w w' := by
  have g := h.grown
  exact ⟨g.os, g.tape, g.output, g.size, fun k hk hn => g.block k hk (by simp at hn ⊢; exact hn)⟩
section
variable {w w' : World} {gm n : Nat} {f : Fn}
theorem MapV.lt (h : MapV w gm n f) : gm < w.heap.size := by obtain ⟨D, h1, _⟩ := h; exact h1.lt
theorem MapV.keep {S : List Nat} (h : MapV w gm n f) (k : Keep S w w') (hn : gm ∉ S) : MapV w' gm n f := by
  have hl := h.lt
  obtain ⟨D, ⟨es, clock, hb, h1⟩, h2⟩ := h
  exact ⟨D, ⟨es, clock, (k.block gm hl hn).trans hb, h1⟩, h2⟩
theorem MapV.made (w : World) : MapV (w.alloc (.map #[] 0)) w.heap.size 0 (fun _ => none) :=
  ⟨.map [], World.ownsMap_made _ _ _ _, rfl, fun i _ => ⟨rfl, fun v h => by cases h⟩⟩
/-- v, ok := m[i] -/
theorem MapV.look (h : MapV w gm n f) (i : In) (hi : i.Ok) :
    (Instr.lookup 101 (.map (some gm)) i.ag true).run Try.prog w = .ok (.tuple #[((f i).getD r0).ag, .bool (f i).isSome]) w := by
  obtain ⟨D, h1, h2, h3⟩ := h
  obtain ⟨h4, h5⟩ := h3 i hi
  obtain ⟨v, ps, hr, hv⟩ := h1.look_ok mlaw Try.underlying101 (zeroE w) (rfl : tokR r0.ag = some (.held r0.ag, [])) (keyIs i hi)
  obtain ⟨e, _⟩ := tokR_inv hv
  have e2 := congrArg Prod.fst e
  simp only at e2
  cases hf : f i with
  | none =>
    rw [hf] at h4
    rw [Maps.atKey_of_not_has h4] at e2
    cases e2
    rw [hr, h4]; rfl
  | some v =>
    rw [hf] at h4
    rw [h5 v hf] at e2
    cases e2
    rw [hr, h4]; rfl
/-- m[i] = v -/
theorem MapV.put (h : MapV w gm n f) (i : In) (v : Rw) (hi : i.Ok) (hn : n < 1000000) :
    ∃ w', (Instr.mapUpdate 101 (.map (some gm)) i.ag v.ag).run Try.prog w = .ok () w' ∧ MapV w' gm (if (f i).isSome then n else n + 1) (upd f i (some v)) ∧ Keep [gm] w w' := by
  obtain ⟨D, h1, h2, h3⟩ := h
  obtain ⟨w', hr, h4, h5⟩ := h1.store mlaw Try.underlying101 (by unfold maxLen; omega) (keyIs i hi) (rfl : tokR v.ag = some (.held v.ag, []))
  refine ⟨w', hr, ⟨D.put (ky Try.prog i) (.held v.ag), ?_, ?_, fun k hk => ?_⟩, keep_turned h5⟩
  · have hs := Maps.size_put (h1.tidy mlaw) (k := ky Try.prog i) (.held v.ag)
    rw [(h3 i hi).1, h2] at hs
    obtain ⟨es, clock, hb, F, hsz, hD⟩ := h4
    refine ⟨es, clock, hb, F, ?_, hD⟩
    rw [← hs, hD]
    simp [Maps.size, length_sorted]
  · rw [Maps.size_put (h1.tidy mlaw), (h3 i hi).1, h2]
  · by_cases e : k = i
    · subst e
      have hk2 : WideAt.IsKeyLit (ky Try.prog k) := ky_lit k hk
      rw [Maps.has_put_same h1.isMap hk2, upd_same]
      refine ⟨rfl, fun j hj => ?_⟩
      cases hj
      exact Maps.atKey_put_same h1.isMap hk2 _ _
    · have hne := ky_ne hk hi e
      rw [Maps.has_put_other hne, upd_other _ _ e]
      refine ⟨(h3 k hk).1, fun j hj => ?_⟩
      rw [Maps.atKey_put_other hne]
      exact (h3 k hk).2 j hj
/-- delete(m, i) -/
theorem MapV.del (h : MapV w gm n f) (i : In) (hi : i.Ok) (ty : TypeId) :
    ∃ w', (Builtin.delete_ #[101, 110] ty #[.map (some gm), i.ag]).run Try.prog w = .ok (.tuple #[]) w' ∧ MapV w' gm (if (f i).isSome then n - 1 else n) (upd f i none) ∧ Keep [gm] w w' := by
  obtain ⟨D, h1, h2, h3⟩ := h
  obtain ⟨w', hr, h4, h5⟩ := h1.drop mlaw Try.underlying101 (keyIs i hi) ty
  have hs := Maps.size_del (h1.tidy mlaw) (k := ky Try.prog i)
  rw [(h3 i hi).1, h2] at hs
  have hs2 : Maps.size (D.del (ky Try.prog i)) = if (f i).isSome then n - 1 else n := by
    split at hs
    · rename_i h; rw [if_pos h]; omega
    · rename_i h; rw [if_neg h]; omega
  refine ⟨w', hr, ⟨D.del (ky Try.prog i), ?_, hs2, fun k hk => ?_⟩, keep_turned h5⟩
  · obtain ⟨es, clock, hb, F, hsz, hD⟩ := h4
    refine ⟨es, clock, hb, F, ?_, hD⟩
    rw [← hs2, hD]
    simp [Maps.size, length_sorted]
  · by_cases e : k = i
    · subst e
      rw [Maps.has_del_same, upd_same]
      exact ⟨rfl, fun j hj => by cases hj⟩
    · have hne := ky_ne hk hi e
      rw [Maps.has_del_other hne, upd_other _ _ e]
      refine ⟨(h3 k hk).1, fun j hj => ?_⟩
      rw [Maps.atKey_del_other hne]
      exact (h3 k hk).2 j hj
/-- len(m) -/
theorem MapV.len (h : MapV w gm n f) (ty : TypeId) : (Builtin.len_ #[101] ty #[.map (some gm)]).run Try.prog w = .ok (.int .i64 (n : Int)) w := by
  obtain ⟨D, h1, h2, h3⟩ := h
  have := h1.len Try.underlying101 ty
  rw [h2] at this
  exact this
end

/-! ### a table -/
/-- what a call may do: the blocks Bs may turn -/
structure TabW (w : World) (B hn gm most n : Nat) (f : Fn) : Prop where
  map : MapV w gm n f
  row : w.heap[hn]? = some (.cells #[.int .i64 (most : Int), .map (some gm)] 103 (0, 0))
  base : B ≤ hn
  gbase : B ≤ gm
  ne : hn ≠ gm
  m1 : 1 ≤ most
  m2 : most ≤ 4096
  few : n ≤ most
section
variable {w w' : World} {B hn gm most n : Nat} {f : Fn}
theorem TabW.hlt (h : TabW w B hn gm most n f) : hn < w.heap.size := (Array.getElem?_eq_some_iff.1 h.row).1
theorem TabW.at0 (h : TabW w B hn gm most n f) : w.cell? ⟨hn, 0, none⟩ = some (.int .i64 (most : Int)) := cell_of_row w hn 0 _ _ (0, 0) h.row
theorem TabW.at1 (h : TabW w B hn gm most n f) : w.cell? ⟨hn, 1, none⟩ = some (.map (some gm)) := cell_of_row w hn 1 _ _ (0, 0) h.row
theorem TabW.keep {U : List Nat} (h : TabW w B hn gm most n f) (k : Keep U w w') (h1 : hn ∉ U) (h2 : gm ∉ U) : TabW w' B hn gm most n f :=
  ⟨h.map.keep k h2, (k.block hn h.hlt h1).trans h.row, h.base, h.gbase, h.ne, h.m1, h.m2, h.few⟩
theorem TabW.below (h : TabW w B hn gm most n f) (b : Below w.heap.size w w') : TabW w' B hn gm most n f := h.keep (Keep.of_below b []) (by simp) (by simp)
theorem TabW.drew (h : TabW w B hn gm most n f) : TabW w.drew B hn gm most n f := h.below (Below.refl _ _).drew
theorem TabW.alloc (h : TabW w B hn gm most n f) (o : Obj) : TabW (w.alloc o) B hn gm most n f := h.below (below_alloc (Below.refl _ _) o)
theorem TabW.turn {f' : Fn} {n' : Nat} (h : TabW w B hn gm most n f) (k : Keep [gm] w w') (hm : MapV w' gm n' f') (hn' : n' ≤ most) : TabW w' B hn gm most n' f' :=
  ⟨hm, (k.block hn h.hlt (by simpa using h.ne)).trans h.row, h.base, h.gbase, h.ne, h.m1, h.m2, hn'⟩
theorem TabW.fewB (h : TabW w B hn gm most n f) : n ≤ 4096 := Nat.le_trans h.few h.m2
end

/-! ### '==' -/
theorem eql_bl (a b c d : Int) (w : World) : (binOp .eql 34 (.agg #[.int .u32 a, .int .u8 b]) (.agg #[.int .u32 c, .int .u8 d])).run Try.prog w = .ok (.bool (a == c && b == d)) w := by
  have hu := Try.underlying34
  rw [run_eql_struct, run_equalIn_agg w 9999 _ _ _ (by kernel_rfl) (by kernel_rfl)]
  rw [show (Try.prog.fieldsOf 34) = _ from by unfold Program.fieldsOf; rw [hu]]
  go_simp
  by_cases h1 : a = c <;> by_cases h2 : b = d <;> simp [h1, h2]
end Go.Proofs.Ytgfalpiifgoonaa
