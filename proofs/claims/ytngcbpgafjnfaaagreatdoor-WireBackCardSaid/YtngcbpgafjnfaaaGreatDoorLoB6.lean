/- Layer 4, plain: a part that is written behind what is there, or read off it: one step for both ways. The coder of package wire: what it holds, what a part's function does with it, written or read. -/
import Derived.Test.YtngcbpgafjnfaaaGreatDoorLoB3
import Derived.Test.YtngcbpgafjnfaaaGreatDoorLoB5
set_option linter.unusedSimpArgs false
set_option linter.unusedVariables false

namespace Go.Proofs.YtngcbpgafjnfaaaGreatDoor
set_option linter.unusedVariables false

/-- one part: read off l (md), or written behind l -/
def step {α : Type} (c : Cod α) (md : Bool) (l : List Nat) (a : α) : Option (List Nat × α) :=
  if md then (c.dec l).map fun x => (x.2, x.1) else if c.ok a then some (l ++ c.enc a, a) else none
theorem step_w {α : Type} (c : Cod α) (l : List Nat) (a : α) : step c false l a = if c.ok a then some (l ++ c.enc a, a) else none := rfl
theorem step_r {α : Type} (c : Cod α) (l : List Nat) (a : α) : step c true l a = (c.dec l).map fun x => (x.2, x.1) := rfl
theorem step_two {α β : Type} (c : Cod α) (d : Cod β) (md : Bool) (l : List Nat) (a : α) (b : β) :
    step (c.two d) md l (a, b) = (step c md l a).bind fun x => (step d md x.1 b).bind fun y => some (y.1, (x.2, y.2)) := by
  cases md
  · simp only [step_w, Cod.two, Cod.dep]
    cases h1 : c.ok a <;> cases h2 : d.ok b <;> simp [h2]
  · simp only [step_r, Cod.two, Cod.dep]
    cases h1 : c.dec l with
    | none => simp
    | some x =>
      obtain ⟨x, r⟩ := x
      simp only [Option.map_some, Option.bind_some]
      cases h2 : d.dec r with
      | none => simp
      | some y => obtain ⟨y, s⟩ := y; simp
theorem step_dep {α β : Type} (c : Cod α) (d : α → Cod β) (md : Bool) (l : List Nat) (a : α) (b : β) :
    step (c.dep d) md l (a, b) = (step c md l a).bind fun x => (step (d x.2) md x.1 b).bind fun y => some (y.1, (x.2, y.2)) := by
  cases md
  · simp only [step_w, Cod.dep]
    cases h1 : c.ok a <;> cases h2 : (d a).ok b <;> simp [h2]
  · simp only [step_r, Cod.dep]
    cases h1 : c.dec l with
    | none => simp
    | some x =>
      obtain ⟨x, r⟩ := x
      simp only [Option.map_some, Option.bind_some]
      cases h2 : (d x).dec r with
      | none => simp
      | some y => obtain ⟨y, s⟩ := y; simp
theorem step_map {α β : Type} (c : Cod α) (f : α → β) (g : β → α) (md : Bool) (l : List Nat) (b : β) (h : ∀ b, f (g b) = b) :
    step (c.map f g fun _ => true) md l b = (step c md l (g b)).map fun x => (x.1, f x.2) := by
  cases md
  · simp only [step_w, Cod.map, Bool.true_and]
    cases h1 : c.ok (g b) <;> simp [h]
  · simp only [step_r, Cod.map]
    cases h1 : c.dec l <;> simp
theorem step_skip {α : Type} (z : α) (p : α → Bool) (l : List Nat) (a : α) (md : Bool) (hp : p a = true → a = z) (hr : md = true → p a = true) :
    step (skip z p) md l a = if p a then some (l, a) else none := by
  cases md
  · simp only [step_w, skip, List.append_nil]
  · simp only [step_r, skip, Option.map_some, hr rfl, if_true, ← hp (hr rfl)]

/-- one behind another -/
def stepL {α : Type} (c : Cod α) (md : Bool) : List α → List Nat → Option (List Nat × List α)
  | [], l => some (l, [])
  | a :: x, l => (step c md l a).bind fun y => (stepL c md x y.1).bind fun z => some (z.1, y.2 :: z.2)
theorem stepL_append {α : Type} (c : Cod α) (md : Bool) : ∀ (x y : List α) (l : List Nat),
    stepL c md (x ++ y) l = (stepL c md x l).bind fun p => (stepL c md y p.1).bind fun q => some (q.1, p.2 ++ q.2)
  | [], y, l => by
    simp only [List.nil_append, stepL, Option.bind_some]
    cases stepL c md y l <;> rfl
  | a :: x, y, l => by
    simp only [List.cons_append, stepL]
    cases h : step c md l a with
    | none => rfl
    | some p =>
      simp only [Option.bind_some]
      rw [stepL_append c md x y p.1]
      cases h1 : stepL c md x p.1 with
      | none => rfl
      | some q =>
        simp only [Option.bind_some]
        cases h2 : stepL c md y q.1 with
        | none => rfl
        | some r => simp
theorem stepL_one {α : Type} (c : Cod α) (md : Bool) (a : α) (l : List Nat) : stepL c md [a] l = (step c md l a).map fun p => (p.1, [p.2]) := by
  simp only [stepL]
  cases step c md l a <;> simp
theorem stepL_len {α : Type} (c : Cod α) (md : Bool) : ∀ (x : List α) (l l' : List Nat) (y : List α), stepL c md x l = some (l', y) → y.length = x.length
  | [], l, l', y, h => by simp only [stepL, Option.some.injEq, Prod.mk.injEq] at h; rw [← h.2]
  | a :: x, l, l', y, h => by
    simp only [stepL] at h
    cases h1 : step c md l a with
    | none => rw [h1] at h; cases h
    | some p =>
      rw [h1] at h
      simp only [Option.bind_some] at h
      cases h2 : stepL c md x p.1 with
      | none => rw [h2] at h; cases h
      | some q =>
        rw [h2] at h
        simp only [Option.bind_some, Option.some.injEq, Prod.mk.injEq] at h
        obtain ⟨_, rfl⟩ := h
        simp [stepL_len c md x p.1 q.1 q.2 h2]
/-- the first k of them, and one more -/
theorem stepL_more {α : Type} (c : Cod α) (md : Bool) {x : List α} {k : Nat} {a : α} (h : x[k]? = some a) (l : List Nat) :
    stepL c md (x.take (k + 1)) l = (stepL c md (x.take k) l).bind fun p => (step c md p.1 a).map fun q => (q.1, p.2 ++ [q.2]) := by
  have e : x.take (k + 1) = x.take k ++ [a] := by rw [List.take_add_one, h]; rfl
  rw [e, stepL_append]
  cases h1 : stepL c md (x.take k) l with
  | none => rfl
  | some p =>
    simp only [Option.bind_some, stepL_one]
    cases h2 : step c md p.1 a <;> simp
/-- where one fails all do -/
theorem stepL_none {α : Type} (c : Cod α) (md : Bool) {x : List α} {k : Nat} (l : List Nat) (h : stepL c md (x.take k) l = none) : stepL c md x l = none := by
  rw [← List.take_append_drop k x, stepL_append, h]; rfl
theorem stepL_r {α : Type} (c : Cod α) : ∀ (x : List α) (l : List Nat), stepL c true x l = (repDec c x.length l).map fun p => (p.2, p.1)
  | [], l => rfl
  | a :: x, l => by
    simp only [stepL, step_r, List.length_cons, repDec]
    cases h : c.dec l with
    | none => rfl
    | some p =>
      obtain ⟨p, r⟩ := p
      simp only [Option.map_some, Option.bind_some]
      rw [stepL_r c x r]
      cases h1 : repDec c x.length r with
      | none => rfl
      | some q => obtain ⟨q, s⟩ := q; rfl
theorem stepL_w {α : Type} (c : Cod α) : ∀ (x : List α) (l : List Nat), stepL c false x l = if x.all c.ok then some (l ++ x.flatMap c.enc, x) else none
  | [], l => by simp [stepL]
  | a :: x, l => by
    simp only [stepL, step_w, List.all_cons, List.flatMap_cons]
    cases h : c.ok a
    · rfl
    · simp only [if_true, Option.bind_some, Bool.true_and]
      rw [stepL_w c x]
      cases h1 : x.all c.ok <;> simp
theorem step_rep {α : Type} (c : Cod α) (md : Bool) (n : Nat) (x : List α) (hx : x.length = n) (l : List Nat) : step (rep c n) md l x = stepL c md x l := by
  subst hx
  cases md
  · rw [stepL_w, step_w]; simp [rep]
  · rw [stepL_r, step_r]; rfl
/-- their number, and they: those that are there, or as many zeros as are told -/
theorem step_list {α : Type} (c : Cod α) (md : Bool) (max : Nat) (z : α) (x : List α) (l : List Nat) :
    step (list max c) md l x = (step (num' 1 max) md l x.length).bind fun p => stepL c md (if md then List.replicate p.2 z else x) p.1 := by
  cases md
  · rw [step_w, list_ok, step_w]
    show _ = (if decide (x.length ≤ max) then some (l ++ le 1 x.length, x.length) else none).bind _
    by_cases h : x.length ≤ max
    · simp only [h, decide_true, if_true, Bool.true_and, Option.bind_some, list_enc]
      simp only [Bool.false_eq_true, if_false]
      rw [stepL_w]
      by_cases hx : x.all c.ok = true
      · rw [if_pos hx, if_pos hx]; simp
      · rw [if_neg hx, if_neg hx]
    · simp [h]
  · simp only [step_r, if_true]
    simp only [list, Cod.map, Cod.dep]
    cases h : (num' 1 max).dec l with
    | none => rfl
    | some p =>
      obtain ⟨n, r⟩ := p
      simp only [Option.map_some, Option.bind_some]
      rw [stepL_r, List.length_replicate]
      simp only [rep]
      cases h1 : repDec c n r with
      | none => rfl
      | some q => obtain ⟨q, s⟩ := q; rfl
/-- a number as an int -/
theorem step_whole (n most : Nat) (md : Bool) (l : List Nat) (v : Nat) : step (whole n most) md l (v : Int) = (step (num' n most) md l v).map fun p => (p.1, (p.2 : Int)) := by
  cases md
  · rw [step_w, step_w, whole_ok, whole_enc]
    show _ = Option.map _ (if decide (v ≤ most) then some (l ++ le n v, v) else none)
    by_cases h : v ≤ most
    · rw [if_pos (by simpa using h), if_pos (by simpa using h)]; simp
    · rw [if_neg (by simpa using h), if_neg (by simpa using h)]; rfl
  · rw [step_r, step_r]
    show Option.map _ (Option.map _ ((num' n most).dec l)) = _
    cases (num' n most).dec l <;> rfl
end Go.Proofs.YtngcbpgafjnfaaaGreatDoor


namespace Go.Proofs.YtngcbpgafjnfaaaGreatDoor
open Go.RowKit
set_option linter.unusedVariables false

/-- where what is read lies (its block); cells that are to stay while it is written -/
structure Src where
  b : Nat
  C : Nat → Nat → Value → Prop
/-- a coder at block gc: does it read; its bytes; whose values they are -/
structure CdAt (w : World) (md : Bool) (gc : Nat) (sb : Src) (f : ByteArray) (ao : Option Addr) (n cap : Nat) (l : List Nat) : Prop where
  c0 : w.cell? ⟨gc, 0, none⟩ = some (.bool md)
  c1 : w.cell? ⟨gc, 1, none⟩ = some (.slice ao n cap)
  c2 : w.cell? ⟨gc, 2, none⟩ = some (.string f)
  f1 : w.frozen? ⟨gc, 1, none⟩ = false
  f2 : w.frozen? ⟨gc, 2, none⟩ = false
  lt : gc < w.heap.size
  len : l.length = n
  le : n ≤ cap
  max : cap ≤ maxLen
  wr : md = false → Own w 0 ao n cap l ∧ gc ∉ blk ao
  st : md = false → ∀ g j v, sb.C g j v → w.cell? ⟨g, j, none⟩ = some v ∧ g < w.heap.size ∧ g ≠ gc ∧ ∀ o, ao = some ⟨g, o, none⟩ → j < o + n
  rd : md = true → Rd w ao l ∧ sb.b ≠ gc ∧ ∀ b ∈ blk ao, b = sb.b
/-- these blocks are none that the coder turns -/
def OffC (md : Bool) (w : World) (P : Nat → Prop) (gc : Nat) (sb : Src) (ao : Option Addr) : Prop := (md = true → P sb.b) ∧ ∀ b, P b → b < w.heap.size ∧ b ≠ gc ∧ (md = false → b ∉ blk ao)
def CdIs (w : World) (md : Bool) (P : Nat → Prop) (gc : Nat) (sb : Src) (f : ByteArray) (l : List Nat) : Prop := ∃ ao n cap, CdAt w md gc sb f ao n cap l ∧ OffC md w P gc sb ao

section
variable {w w' w'' : World} {md : Bool} {P Q N M : Nat → Prop} {gc g o : Nat} {sb : Src} {f : ByteArray} {l : List Nat} {ao : Option Addr} {n cap : Nat}
theorem CdIs.lt (h : CdIs w md P gc sb f l) : gc < w.heap.size := by obtain ⟨ao, n, cap, h1, h2⟩ := h; exact h1.lt
theorem CdIs.off (h : CdIs w md P gc sb f l) {b : Nat} (hb : P b) : b < w.heap.size ∧ b ≠ gc := by obtain ⟨ao, n, cap, h1, h2⟩ := h; exact ⟨(h2.2 b hb).1, (h2.2 b hb).2.1⟩
theorem CdIs.src (h : CdIs w true P gc sb f l) : P sb.b := by obtain ⟨ao, n, cap, h1, h2⟩ := h; exact h2.1 rfl
/-- other blocks that it does not turn -/
theorem CdIs.reP (h : CdIs w md P gc sb f l) (h1 : md = true → Q sb.b) (h2 : ∀ b, Q b → P b ∨ md = true ∧ b < w.heap.size ∧ b ≠ gc) : CdIs w md Q gc sb f l := by
  obtain ⟨ao, n, cap, ha, hof⟩ := h
  refine ⟨ao, n, cap, ha, h1, fun b hb => ?_⟩
  rcases h2 b hb with h3 | ⟨h3, h4, h5⟩
  · exact hof.2 b h3
  · exact ⟨h4, h5, fun h6 => by rw [h3] at h6; cases h6⟩
/-- new blocks do not turn it -/
theorem CdAt.below (h : CdAt w md gc sb f ao n cap l) (b : Below w.heap.size w w') : CdAt w' md gc sb f ao n cap l := by
  have k := Keep.of_below b []
  exact ⟨(k.cell (a := ⟨gc, 0, none⟩) h.lt (by simp)).trans h.c0, (k.cell (a := ⟨gc, 1, none⟩) h.lt (by simp)).trans h.c1, (k.cell (a := ⟨gc, 2, none⟩) h.lt (by simp)).trans h.c2,
    (k.frozen (a := ⟨gc, 1, none⟩) h.lt (by simp)).trans h.f1, (k.frozen (a := ⟨gc, 2, none⟩) h.lt (by simp)).trans h.f2, Nat.lt_of_lt_of_le h.lt b.size, h.len, h.le, h.max,
    fun hm => ⟨(h.wr hm).1.below b, (h.wr hm).2⟩, fun hm g j v hv => ⟨(b.cell (p := ⟨g, j, none⟩) (h.st hm g j v hv).2.1).trans (h.st hm g j v hv).1, Nat.lt_of_lt_of_le (h.st hm g j v hv).2.1 b.size, (h.st hm g j v hv).2.2⟩, fun hm => ⟨(h.rd hm).1.below b, (h.rd hm).2⟩⟩
theorem CdAt.blk_lt (h : CdAt w false gc sb f ao n cap l) : ∀ b ∈ blk ao, b < w.heap.size := fun b hb => ((h.wr rfl).1.lt_size b hb).2
/-- a new block more, that is none of the coder's -/
theorem CdIs.alloc (h : CdIs w md P gc sb f l) (ob : Obj) (h2 : ∀ b, Q b → P b ∨ b = w.heap.size) (h1 : md = true → Q sb.b) : CdIs (w.alloc ob) md Q gc sb f l := by
  obtain ⟨ao, n, cap, ha, hof⟩ := h
  refine ⟨ao, n, cap, ha.below (below_alloc (Below.refl _ _) ob), h1, fun b hb => ?_⟩
  rcases h2 b hb with h3 | rfl
  · exact ⟨by have := (hof.2 b h3).1; simp; omega, (hof.2 b h3).2⟩
  · exact ⟨by simp, fun e => by have := ha.lt; omega, fun hm hb2 => by subst hm; have := ha.blk_lt _ hb2; omega⟩
/-- a store beside it -/
theorem CdAt.put (h : CdAt w true gc sb f ao n cap l) (hP : ∀ b ∈ blk ao, b ≠ g) (hg : g ≠ gc) (v : Value) : CdAt (w.setCell ⟨g, o, none⟩ v) true gc sb f ao n cap l := by
  have hne : ∀ j, (⟨g, o, none⟩ : Addr) ≠ ⟨gc, j, none⟩ := fun j e => hg (by cases e; rfl)
  refine ⟨?_, ?_, ?_, (by rw [World.frozen?_setCell]; exact h.f1), (by rw [World.frozen?_setCell]; exact h.f2), (by simpa [World.setCell] using h.lt), h.len, h.le, h.max, (fun hm => by cases hm), (fun hm => by cases hm), fun _ => ⟨(h.rd rfl).1.keep (Keep.setCell w ⟨g, o, none⟩ v) fun b hb hm => hP b hb (by simpa using hm), (h.rd rfl).2⟩⟩
  · rw [World.cell?_setCell_other _ _ _ _ (hne 0)]; exact h.c0
  · rw [World.cell?_setCell_other _ _ _ _ (hne 1)]; exact h.c1
  · rw [World.cell?_setCell_other _ _ _ _ (hne 2)]; exact h.c2
theorem CdIs.put (h : CdIs w true P gc sb f l) (hP : ¬ P g) (hg : g ≠ gc) (v : Value) : CdIs (w.setCell ⟨g, o, none⟩ v) true P gc sb f l := by
  obtain ⟨ao, n, cap, ha, hof⟩ := h
  exact ⟨ao, n, cap, ha.put (fun b hb e => hP (by have h1 := (ha.rd rfl).2.2 b hb; have h2 := hof.1 rfl; rw [← h1, e] at h2; exact h2)) hg v, hof.1, fun b hb => ⟨by simpa [World.setCell] using (hof.2 b hb).1, (hof.2 b hb).2⟩⟩
end

/-- the cells from o on of block g -/
def Cells (w : World) (g o : Nat) (cs : List Value) : Prop := ∀ j u, cs[j]? = some u → w.cell? ⟨g, o + j, none⟩ = some u
theorem Cells.safe {w w' : World} {P : Nat → Prop} {g o : Nat} {cs : List Value} (h : Cells w g o cs) (s : Safe P w w') (hg : P g) : Cells w' g o cs := fun j u hu => (s.cell (a := ⟨g, o + j, none⟩) hg).trans (h j u hu)
theorem Cells.same {w w' : World} {g o : Nat} {cs : List Value} (h : Cells w g o cs) (hs : ∀ j, j < cs.length → w'.cell? ⟨g, o + j, none⟩ = w.cell? ⟨g, o + j, none⟩) : Cells w' g o cs := fun j u hu => (hs j (List.getElem?_eq_some_iff.1 hu).1).trans (h j u hu)

/-- a kind of part: how it is written and read, how many cells it has, its zero, what its cells are -/
structure Kd (α : Type) where
  cod : Cod α
  sz : Nat
  zero : α
  is : World → (Nat → Prop) → List Value → α → Prop
structure Kd.Fine {α : Type} (k : Kd α) : Prop where
  size : ∀ w N cs a, k.is w N cs a → cs.length = k.sz
  safe : ∀ w w' N P cs a, k.is w N cs a → Safe P w w' → (∀ b, N b → P b) → k.is w' N cs a
  mono : ∀ w N M cs a, k.is w N cs a → (∀ b, N b → M b) → k.is w M cs a

/-- the blocks that stay: where it is read the new ones too -/
def Grow (md : Bool) (P : Nat → Prop) (w w' : World) : Nat → Prop := fun b => P b ∨ md = true ∧ w.heap.size ≤ b ∧ b < w'.heap.size
theorem Grow.old {md : Bool} {P : Nat → Prop} {w w' : World} {b : Nat} (h : P b) : Grow md P w w' b := .inl h
/-- the call gave up, and what it tells -/
def Gave (md : Bool) (f : ByteArray) (e : Ending) (w w' : World) : Prop :=
  ∃ a, w.heap.size ≤ a ∧ a < w'.heap.size ∧ e = .panicked [{ v := .iface 112 (.pointer (some ⟨a, 0, none⟩)), recovered := false }] ∧ w'.cell? ⟨a, 0, none⟩ = some (.int .i64 (if md then 44 else 42)) ∧ w'.cell? ⟨a, 1, none⟩ = some (.string f)
/-- the blocks of P stay; block g has the cells that it had, and they may be laid as before -/
structure SafeK (P : Nat → Prop) (g : Nat) (w w' : World) : Prop extends Safe P w w' where
  has : ∀ j, (w.cell? ⟨g, j, none⟩).isSome = true → (w'.cell? ⟨g, j, none⟩).isSome = true
  fr : ∀ j, w'.frozen? ⟨g, j, none⟩ = w.frozen? ⟨g, j, none⟩
section
variable {P Q : Nat → Prop} {g : Nat} {w w' w'' : World}
theorem SafeK.refl (P : Nat → Prop) (g : Nat) (w : World) : SafeK P g w w := ⟨Safe.refl P w, fun _ h => h, fun _ => rfl⟩
theorem SafeK.trans (h : SafeK P g w w') (k : SafeK P g w' w'') : SafeK P g w w'' := ⟨h.toSafe.trans k.toSafe, fun j hj => k.has j (h.has j hj), fun j => (k.fr j).trans (h.fr j)⟩
theorem SafeK.weak (h : SafeK P g w w') (hq : ∀ k, Q k → P k) : SafeK Q g w w' := ⟨h.toSafe.mono hq, h.has, h.fr⟩
theorem SafeK.in_ (h : Safe P w w') (hg : P g) : SafeK P g w w' := ⟨h, fun j hj => by rw [h.cell (a := ⟨g, j, none⟩) hg]; exact hj, fun j => World.frozen?_of_block (w := w) (a := ⟨g, j, none⟩) (h.block g hg)⟩
theorem SafeK.of (h : Safe (fun b => P b ∨ b = g) w w') : SafeK P g w w' := (SafeK.in_ h (.inr rfl)).weak fun b hb => .inl hb
theorem SafeK.below (h : Below w.heap.size w w') (hP : ∀ b, P b → b < w.heap.size) (hg : g < w.heap.size) : SafeK P g w w' :=
  SafeK.of ⟨h.os, h.tape, h.output, h.size, fun b hb => h.block b (by rcases hb with hb | rfl; exact hP b hb; exact hg)⟩
end
/-- what a part's function comes to -/
def Coded {α : Type} (md : Bool) (P N : Nat → Prop) (gc : Nat) (sb : Src) (f : ByteArray) (g o : Nat) (k : Kd α) (w : World) (r : Option (List Nat × α)) (e : Ending) (w' : World) : Prop :=
  SafeK P g w w' ∧ match r with
  | none => Gave md f e w w'
  | some p => e = .returned (.tuple #[]) ∧ CdIs w' md (Grow md P w w') gc sb f p.1 ∧ (∃ cs, k.is w' (Grow md N w w') cs p.2 ∧ Cells w' g o cs) ∧
      (∀ j, j < o ∨ o + k.sz ≤ j → w'.cell? ⟨g, j, none⟩ = w.cell? ⟨g, j, none⟩) ∧ ∀ j, w'.frozen? ⟨g, j, none⟩ = w.frozen? ⟨g, j, none⟩
/-- a part's function: from any coder, on any value; where it is read from zero -/
def Codes {α : Type} (F : Nat) (xs : List Value) (k : Kd α) (mx : Nat) : Prop :=
  ∀ (md : Bool) (P N : Nat → Prop) (gc : Nat) (sb : Src) (f : ByteArray) (l : List Nat) (g o : Nat) (cs : List Value) (a : α) (w : World), CdIs w md P gc sb f l → (md = true → a = k.zero) → k.is w N cs a → Cells w g o cs →
    (∀ b, N b → P b) → (md = false → P g) → (md = true → ¬ P g ∧ ∀ j, w.frozen? ⟨g, j, none⟩ = false) → g < w.heap.size → g ≠ gc → l.length + mx ≤ 140737488355328 →
    Calls Tryz.prog F ([Value.pointer (some ⟨gc, 0, none⟩), .pointer (some ⟨g, o, none⟩)] ++ xs).toArray w (Coded md P N gc sb f g o k w (step k.cod md l a))

/-- a part of a struct: where it stands, what it is -/
structure Slot where
  off : Nat
  sz : Nat
  p : World → (Nat → Prop) → List Value → Prop
structure Slot.Fine (s : Slot) : Prop where
  size : ∀ w N cs, s.p w N cs → cs.length = s.sz
  safe : ∀ w w' N P cs, s.p w N cs → Safe P w w' → (∀ b, N b → P b) → s.p w' N cs
  mono : ∀ w N M cs, s.p w N cs → (∀ b, N b → M b) → s.p w M cs
def Kd.slot {α : Type} (k : Kd α) (off : Nat) (a : α) : Slot := ⟨off, k.sz, fun w N cs => k.is w N cs a⟩
theorem Kd.Fine.slot {α : Type} {k : Kd α} (h : k.Fine) (off : Nat) (a : α) : (k.slot off a).Fine := ⟨fun w N cs hp => h.size w N cs a hp, fun w w' N P cs hp => h.safe w w' N P cs a hp, fun w N M cs hp => h.mono w N M cs a hp⟩
def Slots (w : World) (N : Nat → Prop) (g o : Nat) : List Slot → Prop
  | [] => True
  | s :: L => (∃ cs, s.p w N cs ∧ Cells w g (o + s.off) cs) ∧ Slots w N g o L
def Apart (off sz : Nat) : List Slot → Prop
  | [] => True
  | s :: L => (s.off + s.sz ≤ off ∨ off + sz ≤ s.off) ∧ Apart off sz L
def AllFine : List Slot → Prop
  | [] => True
  | s :: L => s.Fine ∧ AllFine L
theorem Slots.go {w w' : World} {N M P : Nat → Prop} {g o off sz : Nat} : ∀ {L : List Slot}, Slots w N g o L → AllFine L → Apart off sz L → Safe P w w' → (∀ b, N b → P b) → (∀ b, N b → M b) →
    (∀ j, j < o + off ∨ o + off + sz ≤ j → w'.cell? ⟨g, j, none⟩ = w.cell? ⟨g, j, none⟩) → Slots w' M g o L
  | [], _, _, _, _, _, _, _ => trivial
  | s :: L, h, hf, ha, hs, hN, hM, hc => by
    obtain ⟨⟨cs, h1, h2⟩, h3⟩ := h
    refine ⟨⟨cs, hf.1.mono _ _ _ _ (hf.1.safe _ _ _ _ _ h1 hs hN) hM, h2.same fun j hj => hc _ ?_⟩, Slots.go h3 hf.2 ha.2 hs hN hM hc⟩
    have := hf.1.size _ _ _ h1
    rcases ha.1 with h4 | h4 <;> omega

/-- midway through a struct: what is done, what is still to come -/
structure Mid (md : Bool) (P N : Nat → Prop) (gc : Nat) (sb : Src) (f : ByteArray) (l : List Nat) (g o sz : Nat) (D R : List Slot) (w0 w : World) : Prop where
  cd : CdIs w md (Grow md P w0 w) gc sb f l
  safe : SafeK P g w0 w
  dn : Slots w (Grow md N w0 w) g o D
  to : Slots w (Grow md N w0 w) g o R
  out : ∀ j, j < o ∨ o + sz ≤ j → w.cell? ⟨g, j, none⟩ = w0.cell? ⟨g, j, none⟩
  fz : ∀ j, w.frozen? ⟨g, j, none⟩ = w0.frozen? ⟨g, j, none⟩
def MidEnd {α : Type} (md : Bool) (P N : Nat → Prop) (gc : Nat) (sb : Src) (f : ByteArray) (g o sz off : Nat) (D R : List Slot) (k : Kd α) (w0 : World) (r : Option (List Nat × α)) (e : Ending) (w' : World) : Prop :=
  match r with
  | none => SafeK P g w0 w' ∧ Gave md f e w0 w'
  | some p => e = .returned (.tuple #[]) ∧ Mid md P N gc sb f p.1 g o sz (k.slot off p.2 :: D) R w0 w'
section
variable {md : Bool} {P N : Nat → Prop} {gc g o sz : Nat} {sb : Src} {f : ByteArray} {l : List Nat} {D R : List Slot} {w0 w : World}
theorem grow_self (md : Bool) (P : Nat → Prop) (w : World) : ∀ b, Grow md P w w b → P b := fun b hb => by
  rcases hb with h | ⟨_, h1, h2⟩
  · exact h
  · omega
theorem CdIs.growSelf (h : CdIs w md P gc sb f l) : CdIs w md (Grow md P w w) gc sb f l := h.reP (fun hm => by subst hm; exact .inl h.src) fun b hb => .inl (grow_self md P w b hb)
theorem Mid.start (hcd : CdIs w md P gc sb f l) (hto : Slots w (Grow md N w w) g o R) : Mid md P N gc sb f l g o sz [] R w w :=
  ⟨hcd.growSelf, SafeK.refl _ _ _, trivial, hto, fun _ _ => rfl, fun _ => rfl⟩
theorem Gave.from {md : Bool} {f : ByteArray} {e : Ending} {w0 w w' : World} (h : Gave md f e w w') (hs : w0.heap.size ≤ w.heap.size) : Gave md f e w0 w' := by
  obtain ⟨a, h1, h2⟩ := h
  exact ⟨a, by omega, h2⟩
theorem Mid.call {α : Type} {k : Kd α} (hk : k.Fine) {F mx : Nat} {xs : List Value} (hF : Codes F xs k mx) {off : Nat} {a : α} (M : Mid md P N gc sb f l g o sz D (k.slot off a :: R) w0 w)
    (hz : md = true → a = k.zero) (hN : ∀ b, N b → P b) (hw : md = false → P g) (hr : md = true → ¬ P g ∧ ∀ j, w0.frozen? ⟨g, j, none⟩ = false) (hg : g < w0.heap.size) (hne : g ≠ gc) (hl : l.length + mx ≤ 140737488355328)
    (hsz : off + k.sz ≤ sz) (hfd : AllFine D) (hfr : AllFine R) (had : Apart off k.sz D) (har : Apart off k.sz R) :
    Calls Tryz.prog F ([Value.pointer (some ⟨gc, 0, none⟩), .pointer (some ⟨g, o + off, none⟩)] ++ xs).toArray w (MidEnd md P N gc sb f g o sz off D R k w0 (step k.cod md l a)) := by
  obtain ⟨⟨cs, hi, hc⟩, hR⟩ := M.to
  have hsize := M.safe.size
  have hNP : ∀ b, Grow md N w0 w b → Grow md P w0 w b := fun b hb => by
    rcases hb with h | h
    · exact .inl (hN b h)
    · exact .inr h
  refine (hF md (Grow md P w0 w) (Grow md N w0 w) gc sb f l g (o + off) cs a w M.cd hz hi hc hNP (fun hm => .inl (hw hm)) (fun hm => ⟨fun h => ?_, fun j => (M.fz j).trans ((hr hm).2 j)⟩) (by omega) hne hl).mono ?_
  · rcases h with h | ⟨_, h1, _⟩
    · exact (hr hm).1 h
    · omega
  rintro e w' ⟨hs, h⟩
  have hsP : SafeK P g w w' := hs.weak fun b hb => .inl hb
  have hs := hs.toSafe
  have hsize2 := hs.size
  unfold MidEnd
  cases hst : step k.cod md l a with
  | none =>
    rw [hst] at h
    exact ⟨M.safe.trans hsP, h.from hsize⟩
  | some p =>
    rw [hst] at h
    obtain ⟨he, hcd, ⟨cs', hi', hc'⟩, hout, hfz⟩ := h
    have hgr : ∀ b, Grow md (Grow md N w0 w) w w' b → Grow md N w0 w' b := fun b hb => by
      rcases hb with (h | ⟨h1, h2, h3⟩) | ⟨h1, h2, h3⟩
      · exact .inl h
      · exact .inr ⟨h1, h2, by omega⟩
      · exact .inr ⟨h1, by omega, h3⟩
    have hgm : ∀ b, Grow md N w0 w b → Grow md N w0 w' b := fun b hb => hgr b (.inl hb)
    refine ⟨he, hcd.reP (fun hm => ?_) (fun b hb => ?_), M.safe.trans hsP, ⟨⟨cs', hk.mono _ _ _ _ _ hi' hgr, hc'⟩, M.dn.go hfd had hs hNP hgm hout⟩, hR.go hfr har hs hNP hgm hout, fun j hj => ?_, fun j => (hfz j).trans (M.fz j)⟩
    · subst hm
      rcases hcd.src with (h | ⟨h1, h2, h3⟩) | ⟨h1, h2, h3⟩
      · exact .inl h
      · exact .inr ⟨h1, h2, by omega⟩
      · exact .inr ⟨h1, by omega, h3⟩
    · rcases hb with h | ⟨h1, h2, h3⟩
      · exact .inl (.inl (.inl h))
      · by_cases hb2 : b < w.heap.size
        · exact .inl (.inl (.inr ⟨h1, h2, hb2⟩))
        · exact .inl (.inr ⟨h1, by omega, h3⟩)
    · have := hout j (by omega)
      exact this.trans (M.out j hj)
end

/-- midway through a row of parts of one kind -/
structure MidL {α : Type} (md : Bool) (P N : Nat → Prop) (gc : Nat) (sb : Src) (f : ByteArray) (l : List Nat) (g o : Nat) (k : Kd α) (xs : List α) (w0 w : World) : Prop where
  cd : CdIs w md (Grow md P w0 w) gc sb f l
  safe : SafeK P g w0 w
  at_ : ∀ i a, xs[i]? = some a → ∃ cs, k.is w (Grow md N w0 w) cs a ∧ Cells w g (o + i * k.sz) cs
  out : ∀ j, j < o ∨ o + xs.length * k.sz ≤ j → w.cell? ⟨g, j, none⟩ = w0.cell? ⟨g, j, none⟩
  fz : ∀ j, w.frozen? ⟨g, j, none⟩ = w0.frozen? ⟨g, j, none⟩
def MidLEnd {α : Type} (md : Bool) (P N : Nat → Prop) (gc : Nat) (sb : Src) (f : ByteArray) (g o i : Nat) (k : Kd α) (xs : List α) (w0 : World) (r : Option (List Nat × α)) (e : Ending) (w' : World) : Prop :=
  match r with
  | none => SafeK P g w0 w' ∧ Gave md f e w0 w'
  | some p => e = .returned (.tuple #[]) ∧ MidL md P N gc sb f p.1 g o k (xs.set i p.2) w0 w'
section
variable {md : Bool} {P N : Nat → Prop} {gc g o : Nat} {sb : Src} {f : ByteArray} {l : List Nat} {w0 w : World}
theorem MidL.start {α : Type} {k : Kd α} {xs : List α} (hcd : CdIs w md P gc sb f l) (h : ∀ i a, xs[i]? = some a → ∃ cs, k.is w (Grow md N w w) cs a ∧ Cells w g (o + i * k.sz) cs) : MidL md P N gc sb f l g o k xs w w :=
  ⟨hcd.growSelf, SafeK.refl _ _ _, h, fun _ _ => rfl, fun _ => rfl⟩
theorem MidL.call {α : Type} {k : Kd α} (hk : k.Fine) {F mx : Nat} {ys : List Value} (hF : Codes F ys k mx) {xs : List α} {i : Nat} {a : α} (M : MidL md P N gc sb f l g o k xs w0 w) (hi : xs[i]? = some a)
    (hz : md = true → a = k.zero) (hN : ∀ b, N b → P b) (hw : md = false → P g) (hr : md = true → ¬ P g ∧ ∀ j, w0.frozen? ⟨g, j, none⟩ = false) (hg : g < w0.heap.size) (hne : g ≠ gc) (hl : l.length + mx ≤ 140737488355328) :
    Calls Tryz.prog F ([Value.pointer (some ⟨gc, 0, none⟩), .pointer (some ⟨g, o + i * k.sz, none⟩)] ++ ys).toArray w (MidLEnd md P N gc sb f g o i k xs w0 (step k.cod md l a)) := by
  obtain ⟨cs, hic, hc⟩ := M.at_ i a hi
  have hil : i < xs.length := (List.getElem?_eq_some_iff.1 hi).1
  have hsize := M.safe.size
  have hNP : ∀ b, Grow md N w0 w b → Grow md P w0 w b := fun b hb => by
    rcases hb with h | h
    · exact .inl (hN b h)
    · exact .inr h
  refine (hF md (Grow md P w0 w) (Grow md N w0 w) gc sb f l g (o + i * k.sz) cs a w M.cd hz hic hc hNP (fun hm => .inl (hw hm)) (fun hm => ⟨fun h => ?_, fun j => (M.fz j).trans ((hr hm).2 j)⟩) (by omega) hne hl).mono ?_
  · rcases h with h | ⟨_, h1, _⟩
    · exact (hr hm).1 h
    · omega
  rintro e w' ⟨hs, h⟩
  have hsP : SafeK P g w w' := hs.weak fun b hb => .inl hb
  have hs := hs.toSafe
  have hsize2 := hs.size
  unfold MidLEnd
  cases hst : step k.cod md l a with
  | none =>
    rw [hst] at h
    exact ⟨M.safe.trans hsP, h.from hsize⟩
  | some p =>
    rw [hst] at h
    obtain ⟨he, hcd, ⟨cs', hi', hc'⟩, hout, hfz⟩ := h
    have hgr : ∀ b, Grow md (Grow md N w0 w) w w' b → Grow md N w0 w' b := fun b hb => by
      rcases hb with (h | ⟨h1, h2, h3⟩) | ⟨h1, h2, h3⟩
      · exact .inl h
      · exact .inr ⟨h1, h2, by omega⟩
      · exact .inr ⟨h1, by omega, h3⟩
    have hgm : ∀ b, Grow md N w0 w b → Grow md N w0 w' b := fun b hb => hgr b (.inl hb)
    refine ⟨he, hcd.reP (fun hm => ?_) (fun b hb => ?_), M.safe.trans hsP, fun j b hj => ?_, fun j hj => ?_, fun j => (hfz j).trans (M.fz j)⟩
    · subst hm
      rcases hcd.src with (h | ⟨h1, h2, h3⟩) | ⟨h1, h2, h3⟩
      · exact .inl h
      · exact .inr ⟨h1, h2, by omega⟩
      · exact .inr ⟨h1, by omega, h3⟩
    · rcases hb with h | ⟨h1, h2, h3⟩
      · exact .inl (.inl (.inl h))
      · by_cases hb2 : b < w.heap.size
        · exact .inl (.inl (.inr ⟨h1, h2, hb2⟩))
        · exact .inl (.inr ⟨h1, by omega, h3⟩)
    · by_cases e : j = i
      · subst e
        rw [List.getElem?_set_self hil] at hj
        injection hj with hj
        subst hj
        exact ⟨cs', hk.mono _ _ _ _ _ hi' hgr, hc'⟩
      · rw [List.getElem?_set_ne (Ne.symm e)] at hj
        obtain ⟨cs2, h1, h2⟩ := M.at_ j b hj
        refine ⟨cs2, hk.mono _ _ _ _ _ (hk.safe _ _ _ _ _ _ h1 hs hNP) hgm, h2.same fun q hq => hout _ ?_⟩
        have hsz := hk.size _ _ _ _ h1
        rw [hsz] at hq
        rcases (by omega : j < i ∨ i < j) with h3 | h3
        · left
          have : (j + 1) * k.sz ≤ i * k.sz := Nat.mul_le_mul_right _ h3
          rw [Nat.succ_mul] at this
          omega
        · right
          have : (i + 1) * k.sz ≤ j * k.sz := Nat.mul_le_mul_right _ h3
          rw [Nat.succ_mul] at this
          omega
    · rw [List.length_set] at hj
      have h2 : (i + 1) * k.sz ≤ xs.length * k.sz := Nat.mul_le_mul_right _ hil
      rw [Nat.succ_mul] at h2
      exact (hout j (by omega)).trans (M.out j hj)
end
end Go.Proofs.YtngcbpgafjnfaaaGreatDoor
