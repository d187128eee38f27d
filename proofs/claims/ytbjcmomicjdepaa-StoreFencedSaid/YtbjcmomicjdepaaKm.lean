/- Maps of the call's own, keyed by flat structs, as functions. -/
import Derived.Test.YtbjcmomicjdepaaRow
import Derived.Test.YtbjcmomicjdepaaQTail
import Derived.Maps.OwnSet
import Derived.DeepKeys3
import Derived.Laws.StructEq
import Derived.WideKeyEntry
namespace Go.Proofs.Ytbjcmomicjdepaa
open Go.RowKit Go.WideElems Go.ChangeMaps
set_option linter.unusedVariables false
set_option linter.unusedSectionVars false
set_option maxRecDepth 100000

/-- the key of a value -/
def kyOf (P : Program) (t : TypeId) (v : Value) : Lit := (keyOf P t v).getD (.bool false)
theorem keep_turned {w w' : World} {gm : Nat} (h : w.mapTurned w' gm) : Keep [gm] w w' := by
  have g := h.grown
  exact ⟨g.os, g.tape, g.output, g.size, fun k hk hn => g.block k hk (by simp at hn ⊢; exact hn)⟩
/-- a value reads as itself -/
def tokA (v : Value) : Option (DataW Value × List MemPlace) := some (.held v, [])
def up {α β : Type} [DecidableEq α] (f : α → Option β) (i : α) (x : Option β) : α → Option β := fun k => if k = i then x else f k
theorem up_same {α β : Type} [DecidableEq α] (f : α → Option β) (i : α) (x : Option β) : up f i x i = x := by simp [up]
theorem up_other {α β : Type} [DecidableEq α] (f : α → Option β) {i k : α} (x : Option β) (h : k ≠ i) : up f i x k = f k := by simp [up, h]
theorem setBlock_turn (w : World) (b : Nat) (o : Obj) {es : Array MapEntry} {c : Nat} (h : w.heap[b]? = some (.map es c)) : Keep [b] w (setBlock w b o) :=
  ⟨rfl, rfl, rfl, by simp [setBlock], fun k hk hn => ChangeMaps.heap_setBlock_other h _ (by simpa using hn)⟩

section
variable {α β : Type} [DecidableEq α] (kt mt et : TypeId) (ag : α → Value) (Ok : α → Prop) (bg : β → Value) (z : β)
/-- what a map's key type and element type are good for -/
structure KM : Prop where
  law : WideMaps.KeyLaw Try.prog kt
  und : Try.prog.underlying mt = some (.map kt et)
  zero : ∀ w, (zeroValue et).run Try.prog w = .ok (bg z) w
  key : ∀ i, Ok i → ∃ l, keyOf Try.prog kt (ag i) = some l
  inj : ∀ i j, ag i = ag j → i = j
/-- block gm holds a map of n entries: f -/
def MapK (w : World) (gm n : Nat) (f : α → Option β) : Prop :=
  ∃ D : DataW Value, w.ownsMap Try.prog kt tokA gm n D ∧ Maps.size D = n ∧
    ∀ i, Ok i → Maps.has D (kyOf Try.prog kt (ag i)) = (f i).isSome ∧ ∀ v, f i = some v → D.atKey (kyOf Try.prog kt (ag i)) (.held (bg z)) = .held (bg v)
variable {kt mt et ag Ok bg z}
variable {w w' : World} {gm n : Nat} {f : α → Option β}
theorem KM.keyed (K : KM kt mt et ag Ok bg z) : Maps.Keyed Try.prog kt := Maps.Keyed.of_law K.law
theorem KM.is (K : KM kt mt et ag Ok bg z) {i : α} (hi : Ok i) : keyOf Try.prog kt (ag i) = some (kyOf Try.prog kt (ag i)) := by
  obtain ⟨l, hl⟩ := K.key i hi
  unfold kyOf
  rw [hl]; rfl
theorem KM.ne (K : KM kt mt et ag Ok bg z) {i j : α} (hi : Ok i) (hj : Ok j) (h : i ≠ j) : kyOf Try.prog kt (ag i) ≠ kyOf Try.prog kt (ag j) := by
  intro e
  have h1 := K.is hi
  rw [e] at h1
  exact h (K.inj _ _ (K.keyed.inj h1 (K.is hj)))
theorem KM.lit (K : KM kt mt et ag Ok bg z) {i : α} (hi : Ok i) : WideAt.IsKeyLit (kyOf Try.prog kt (ag i)) := K.keyed.key (K.is hi)
theorem MapK.lt (h : MapK kt ag Ok bg z w gm n f) : gm < w.heap.size := by obtain ⟨D, h1, _⟩ := h; exact h1.lt
theorem MapK.same (h : MapK kt ag Ok bg z w gm n f) (e : w'.heap[gm]? = w.heap[gm]?) : MapK kt ag Ok bg z w' gm n f := by
  obtain ⟨D, ⟨es, clock, hb, h1⟩, h2⟩ := h
  exact ⟨D, ⟨es, clock, e.trans hb, h1⟩, h2⟩
theorem MapK.keep {S : List Nat} (h : MapK kt ag Ok bg z w gm n f) (k : Keep S w w') (hn : gm ∉ S) : MapK kt ag Ok bg z w' gm n f := h.same (k.block gm h.lt hn)
theorem MapK.ext {g : α → Option β} (h : MapK kt ag Ok bg z w gm n f) (e : ∀ i, Ok i → g i = f i) : MapK kt ag Ok bg z w gm n g := by
  obtain ⟨D, h1, h2, h3⟩ := h
  refine ⟨D, h1, h2, fun i hi => ?_⟩
  rw [e i hi]
  exact h3 i hi
theorem MapK.made (w : World) : MapK kt ag Ok bg z (w.alloc (.map #[] 0)) w.heap.size 0 (fun _ => none) :=
  ⟨.map [], World.ownsMap_made _ _ _ _, rfl, fun i _ => ⟨rfl, fun v h => by cases h⟩⟩
/-- v, ok := m[i] -/
theorem MapK.look (K : KM kt mt et ag Ok bg z) (h : MapK kt ag Ok bg z w gm n f) (i : α) (hi : Ok i) :
    (Instr.lookup mt (.map (some gm)) (ag i) true).run Try.prog w = .ok (.tuple #[bg ((f i).getD z), .bool (f i).isSome]) w := by
  obtain ⟨D, h1, h2, h3⟩ := h
  obtain ⟨h4, h5⟩ := h3 i hi
  obtain ⟨v, ps, hr, hv⟩ := h1.look_ok K.keyed K.und (K.zero w) (rfl : tokA (bg z) = some (.held (bg z), [])) (K.is hi)
  simp only [tokA, Option.some.injEq, Prod.mk.injEq] at hv
  obtain ⟨e2, _⟩ := hv
  cases hf : f i with
  | none =>
    rw [hf] at h4
    rw [Maps.atKey_of_not_has h4] at e2
    cases e2
    rw [hr, h4]; rfl
  | some v =>
    rw [hf] at h4
    rw [h5 v hf] at e2
    cases e2
    rw [hr, h4]; rfl
/-- m[i] -/
theorem MapK.look1 (K : KM kt mt et ag Ok bg z) (h : MapK kt ag Ok bg z w gm n f) (i : α) (hi : Ok i) :
    (Instr.lookup mt (.map (some gm)) (ag i) false).run Try.prog w = .ok (bg ((f i).getD z)) w := by
  obtain ⟨D, ⟨es, clock, hb, F, hs, hD⟩, h2, h3⟩ := h
  obtain ⟨h4, h5⟩ := h3 i hi
  subst hD
  rcases Maps.fit_look false K.keyed K.und (K.zero w) hb F (K.is hi) with ⟨hrun, _, hat⟩ | ⟨e0, y, _, _, hrun, hRv, hat, _⟩
  · rw [Maps.has_false_of_atKey hat] at h4
    cases hf : f i with
    | none => rw [hrun]; rfl
    | some v => rw [hf] at h4; cases h4
  · rw [Maps.has_true_of_atKey hat] at h4
    cases hf : f i with
    | none => rw [hf] at h4; cases h4
    | some v =>
      have e1 := h5 v hf
      rw [hat] at e1
      simp only [tokA, Option.some.injEq] at hRv
      rw [← hRv] at e1
      simp only [DataW.held.injEq] at e1
      rw [hrun, e1]; rfl
theorem MapK.put_aux (K : KM kt mt et ag Ok bg z) {D : DataW Value} (h1 : w.ownsMap Try.prog kt tokA gm n D) (h2 : Maps.size D = n)
    (h3 : ∀ i, Ok i → Maps.has D (kyOf Try.prog kt (ag i)) = (f i).isSome ∧ ∀ v, f i = some v → D.atKey (kyOf Try.prog kt (ag i)) (.held (bg z)) = .held (bg v)) (i : α) (hi : Ok i) (v : β)
    (h4 : w'.ownsMap Try.prog kt tokA gm (n + 1) (D.put (kyOf Try.prog kt (ag i)) (.held (bg v)))) : MapK kt ag Ok bg z w' gm (if (f i).isSome then n else n + 1) (up f i (some v)) := by
  refine ⟨D.put (kyOf Try.prog kt (ag i)) (.held (bg v)), ?_, ?_, fun k hk => ?_⟩
  · have hs := Maps.size_put (h1.tidy K.keyed) (k := kyOf Try.prog kt (ag i)) (.held (bg v))
    rw [(h3 i hi).1, h2] at hs
    obtain ⟨es, clock, hb, F, hsz, hD⟩ := h4
    refine ⟨es, clock, hb, F, ?_, hD⟩
    rw [← hs, hD]
    simp [Maps.size, length_sorted]
  · rw [Maps.size_put (h1.tidy K.keyed), (h3 i hi).1, h2]
  · by_cases e : k = i
    · subst e
      have hk2 := K.lit hk
      rw [Maps.has_put_same h1.isMap hk2, up_same]
      refine ⟨rfl, fun j hj => ?_⟩
      cases hj
      exact Maps.atKey_put_same h1.isMap hk2 _ _
    · have hne := K.ne hk hi e
      rw [Maps.has_put_other hne, up_other _ _ e]
      refine ⟨(h3 k hk).1, fun j hj => ?_⟩
      rw [Maps.atKey_put_other hne]
      exact (h3 k hk).2 j hj
/-- m[i] = v -/
theorem MapK.put (K : KM kt mt et ag Ok bg z) (h : MapK kt ag Ok bg z w gm n f) (i : α) (v : β) (hi : Ok i) (hn : n < 1000000) :
    ∃ w', (Instr.mapUpdate mt (.map (some gm)) (ag i) (bg v)).run Try.prog w = .ok () w' ∧ MapK kt ag Ok bg z w' gm (if (f i).isSome then n else n + 1) (up f i (some v)) ∧ Keep [gm] w w' := by
  obtain ⟨D, h1, h2, h3⟩ := h
  obtain ⟨w', hr, h4, h5⟩ := h1.store K.keyed K.und (by unfold maxLen; omega) (K.is hi) (rfl : tokA (bg v) = some (.held (bg v), []))
  exact ⟨w', hr, MapK.put_aux K h1 h2 h3 i hi v h4, keep_turned h5⟩
/-- delete(m, i) -/
theorem MapK.del (K : KM kt mt et ag Ok bg z) (h : MapK kt ag Ok bg z w gm n f) (i : α) (hi : Ok i) (ty : TypeId) :
    ∃ w', (Builtin.delete_ #[mt, kt] ty #[.map (some gm), ag i]).run Try.prog w = .ok (.tuple #[]) w' ∧ MapK kt ag Ok bg z w' gm (if (f i).isSome then n - 1 else n) (up f i none) ∧ Keep [gm] w w' := by
  obtain ⟨D, h1, h2, h3⟩ := h
  obtain ⟨w', hr, h4, h5⟩ := h1.drop K.keyed K.und (K.is hi) ty
  have hs := Maps.size_del (h1.tidy K.keyed) (k := kyOf Try.prog kt (ag i))
  rw [(h3 i hi).1, h2] at hs
  have hs2 : Maps.size (D.del (kyOf Try.prog kt (ag i))) = if (f i).isSome then n - 1 else n := by
    split at hs
    · rename_i h; rw [if_pos h]; omega
    · rename_i h; rw [if_neg h]; omega
  refine ⟨w', hr, ⟨D.del (kyOf Try.prog kt (ag i)), ?_, hs2, fun k hk => ?_⟩, keep_turned h5⟩
  · obtain ⟨es, clock, hb, F, hsz, hD⟩ := h4
    refine ⟨es, clock, hb, F, ?_, hD⟩
    rw [← hs2, hD]
    simp [Maps.size, length_sorted]
  · by_cases e : k = i
    · subst e
      rw [Maps.has_del_same, up_same]
      exact ⟨rfl, fun j hj => by cases hj⟩
    · have hne := K.ne hk hi e
      rw [Maps.has_del_other hne, up_other _ _ e]
      refine ⟨(h3 k hk).1, fun j hj => ?_⟩
      rw [Maps.atKey_del_other hne]
      exact (h3 k hk).2 j hj
/-- len(m) -/
theorem MapK.len (K : KM kt mt et ag Ok bg z) (h : MapK kt ag Ok bg z w gm n f) (ty : TypeId) : (Builtin.len_ #[mt] ty #[.map (some gm)]).run Try.prog w = .ok (.int .i64 (n : Int)) w := by
  obtain ⟨D, h1, h2, h3⟩ := h
  have := h1.len K.und ty
  rw [h2] at this
  exact this
/-- clear(m) -/
theorem MapK.clear (K : KM kt mt et ag Ok bg z) (h : MapK kt ag Ok bg z w gm n f) (ty : TypeId) :
    ∃ w', (Builtin.clear_ #[mt] ty #[.map (some gm)]).run Try.prog w = .ok (.tuple #[]) w' ∧ MapK kt ag Ok bg z w' gm 0 (fun _ => none) ∧ Keep [gm] w w' := by
  obtain ⟨D, ⟨es, clock, hb, F, hs, hD⟩, h2, h3⟩ := h
  refine ⟨setBlock w gm (.map #[] clock), ?_, ⟨.map [], ⟨#[], clock, ChangeMaps.heap_setBlock_same hb _, ⟨by simp, MapKept.stamped_empty clock, by simp⟩, Nat.le_refl _, rfl⟩, rfl, fun i _ => ⟨rfl, fun v h => by cases h⟩⟩, setBlock_turn w gm _ hb⟩
  simp [Builtin.clear_, run_underlying K.und, MapKept.run_getObj_map hb, MapKept.run_setObj_map _ hb, Result.andThen, setBlock]
/-- m[i] = .. m[i] ..: first the entry, then the store into it -/
theorem MapK.entry (K : KM kt mt et ag Ok bg z) (h : MapK kt ag Ok bg z w gm n f) (i : α) (hi : Ok i) (hn : n < 1000000) :
    ∃ (st : Nat) (w1 : World), (Instr.mapEntry mt (.map (some gm)) (ag i)).run Try.prog w = .ok (.tuple #[bg ((f i).getD z), goInt st]) w1 ∧ Keep [gm] w w1 ∧ (∃ m g, MapK kt ag Ok bg z w1 gm m g ∧ (g i).getD z = (f i).getD z) ∧
      ∀ v, ∃ w2, (Instr.entryStore mt (.map (some gm)) (goInt st) (bg v)).run Try.prog w1 = .ok () w2 ∧ MapK kt ag Ok bg z w2 gm (if (f i).isSome then n else n + 1) (up f i (some v)) ∧ Keep [gm] w1 w2 := by
  obtain ⟨D, ⟨es, clock, hb, F, hs, hD⟩, h2, h3⟩ := h
  have h1 : w.ownsMap Try.prog kt tokA gm n D := ⟨es, clock, hb, F, hs, hD⟩
  have h : MapK kt ag Ok bg z w gm n f := ⟨D, h1, h2, h3⟩
  obtain ⟨v0, st, es1, clock1, hr, hv, hst⟩ := entry_then_store K.law K.und (fun u => K.zero u) hb F (K.is hi)
  have hb1 : (setBlock w gm (.map es1 clock1)).heap[gm]? = some (.map es1 clock1) := ChangeMaps.heap_setBlock_same hb _
  have hk1 := setBlock_turn w gm (.map es1 clock1) hb
  have hval : v0 = bg ((f i).getD z) ∧ ∃ m g, MapK kt ag Ok bg z (setBlock w gm (.map es1 clock1)) gm m g ∧ (g i).getD z = (f i).getD z := by
    have hl := h.look1 K i hi
    obtain ⟨s1, s2, _⟩ := F.stamped
    rcases K.law.find w (K.is hi) es.toList F.keys with ⟨q1, q2⟩ | ⟨j, e0, q1, q2, q3⟩
    · have hz := K.zero
      have e1 : (Instr.mapEntry mt (.map (some gm)) (ag i)).run Try.prog w = .ok (.tuple #[bg z, goInt clock]) (setBlock w gm (.map (es.push ⟨ag i, bg z, clock⟩) (clock + 1))) := by
        simp [Instr.mapEntry, run_underlying K.und, MapKept.run_getObj_map hb, K.law.check w false (K.is hi), q1, hz, MapKept.run_setObj_map _ hb, Result.andThen, setBlock]
      have e2 : (Instr.mapUpdate mt (.map (some gm)) (ag i) (bg z)).run Try.prog w = .ok () (setBlock w gm (.map (es.push ⟨ag i, bg z, clock⟩) (clock + 1))) := by
        simp [Instr.mapUpdate, run_underlying K.und, MapKept.run_getObj_map hb, K.law.check w false (K.is hi), q1, MapKept.run_setObj_map _ hb, Result.andThen, setBlock]
      have e3 : (Instr.lookup mt (.map (some gm)) (ag i) false).run Try.prog w = .ok (bg z) w := by
        simp [Instr.lookup, run_underlying K.und, MapKept.run_getObj_map hb, K.law.check w _ (K.is hi), q1, hz, Result.andThen]
      rw [hr] at e1
      rw [hl] at e3
      simp only [Result.ok.injEq, Value.tuple.injEq, and_true] at e1 e3
      obtain ⟨e1, e4⟩ := e1
      obtain ⟨w', p1, p2, p3⟩ := h.put K i z hi hn
      rw [e2] at p1
      simp only [Result.ok.injEq, true_and] at p1
      subst p1
      rw [← e4] at p2
      refine ⟨?_, _, _, p2, ?_⟩
      · rw [e3]
        simp at e1
        exact e1.1
      · rw [up_same]
        simp only [Option.getD_some]
        cases hf : f i with
        | none => rfl
        | some v =>
          have hh := (h3 i hi).1
          rw [hf] at e3
          rcases Maps.fit_look false K.keyed K.und (K.zero w) hb F (K.is hi) with ⟨_, _, hat⟩ | ⟨e0, y, hm, hk, _⟩
          · rw [hD, Maps.has_false_of_atKey hat, hf] at hh; cases hh
          · exact absurd hk (q2 _ hm)
    · have hj : es[j]? = some e0 := by simpa using q2
      have hsame : es.modify j (fun e => { e with key := ag i }) = es := by
        apply Array.ext'
        rw [Array.toList_modify, modify_eq_set _ _ _ _ q2]
        have : ({ e0 with key := ag i } : MapEntry) = e0 := by rw [← q3]
        rw [this]
        exact set_self _ _ _ q2
      have e1 : (Instr.mapEntry mt (.map (some gm)) (ag i)).run Try.prog w = .ok (.tuple #[e0.val, goInt e0.born]) (setBlock w gm (.map es clock)) := by
        simp [Instr.mapEntry, run_underlying K.und, MapKept.run_getObj_map hb, K.law.check w false (K.is hi), q1, hj, q3, K.law.stays w (K.is hi), hsame, MapKept.run_setObj_map _ hb, Result.andThen, setBlock]
      have e3 : (Instr.lookup mt (.map (some gm)) (ag i) false).run Try.prog w = .ok e0.val w := by
        simp [Instr.lookup, run_underlying K.und, MapKept.run_getObj_map hb, K.law.check w _ (K.is hi), q1, Result.andThen]
      rw [hr] at e1
      rw [hl] at e3
      simp only [Result.ok.injEq, Value.tuple.injEq, and_true] at e1 e3
      obtain ⟨e1, e4⟩ := e1
      refine ⟨?_, n, f, ?_, rfl⟩
      · rw [e3]
        simp at e1
        exact e1.1
      · rw [e4]
        exact h.same ((ChangeMaps.heap_setBlock_same hb _).trans hb.symm)
  obtain ⟨rfl, hm⟩ := hval
  refine ⟨st, _, hr, hk1, hm, fun v => ?_⟩
  obtain ⟨es', clock', p1, p2⟩ := hst _ (bg v) hb1
  refine ⟨_, p1, ?_, setBlock_turn _ gm _ hb1⟩
  obtain ⟨w', o1, o2, o3⟩ := h.put K i v hi hn
  rw [p2] at o1
  simp only [Result.ok.injEq, true_and] at o1
  subst o1
  exact o2.same ((ChangeMaps.heap_setBlock_same hb1 _).trans (ChangeMaps.heap_setBlock_same hb _).symm)
end


/-! ### names of replicas -/
structure Nm where
  b : Int
  r : Int
deriving DecidableEq
abbrev Nm.ag (p : Nm) : Value := .agg #[.int .i64 p.b, .int .i64 p.r]
structure Nm.Ok (p : Nm) : Prop where
  b : (Lit.int .i64 p.b).wf = true
  r : (Lit.int .i64 p.r).wf = true
theorem cNm : Try.prog.cellsOf 109 = 2 := by kernel_rfl
theorem c1b : Try.prog.cellsOf 3 = 1 := by kernel_rfl
theorem ty2 : ∃ m, Try.prog.types.size + 1 = m + 2 := ⟨Try.prog.types.size - 1, by have : 1 ≤ Try.prog.types.size := of_decide_eq_true (by kernel_rfl); omega⟩
theorem keyTN : Try.prog.keyType 109 = true := by kernel_rfl
theorem nmEx (p : Nm) (h : p.Ok) : ∃ l, keyOf Try.prog 109 p.ag = some l := by
  obtain ⟨h1, h2⟩ := h
  obtain ⟨m, hm⟩ := ty2
  have hu := Try.underlying109
  unfold keyOf
  rw [hu]
  simp only
  rw [keyTN]
  have hf : p.ag.formed Try.prog 109 = true := by simp [Value.formed, hu, cNm]
  rw [hf, hm]
  simp only [Bool.and_self, if_true]
  unfold Program.keyLits
  rw [hu]
  simp [Value.cells, cNm, c1b, Program.keyLits, Try.underlying3, h1, h2]
theorem wideNm : (match Try.prog.underlying 109 with | some (.array _ _) | some (.struct _) => true | _ => false) = true := by kernel_rfl
/-- a pointer to a row -/
abbrev pag (o : Option Nat) : Value := .pointer (o.map fun b => (⟨b, 0, none⟩ : Addr))
theorem zeroPt (w : World) : (zeroValue 88).run Try.prog w = .ok (pag none) w := by kernel_rfl
theorem kNm : KM 109 84 88 Nm.ag Nm.Ok pag none where
  law := deep_law (m := 3) (by omega) (by kernel_rfl) (by kernel_rfl) wideNm
  und := Try.underlying84
  zero := zeroPt
  key := nmEx
  inj := fun i j h => by
    obtain ⟨a, b⟩ := i
    obtain ⟨a', b'⟩ := j
    simp at h
    simp [h]
abbrev Rws := MapK 109 Nm.ag Nm.Ok pag none
end Go.Proofs.Ytbjcmomicjdepaa
