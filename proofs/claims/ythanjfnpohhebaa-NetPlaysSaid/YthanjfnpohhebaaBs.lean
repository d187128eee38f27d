/- Byte slices: what reads as a list of bytes; rows of bytes that the call made; append, copy, make. -/
import Derived.Test.YthanjfnpohhebaaHolds
import Derived.OwnWalk
import Derived.Laws.OwnMore
import Derived.Laws.AppendOwn
import Derived.Laws.IdiomCopy
import Derived.ArgAppend
import Derived.Deep.Upon
import Derived.Lib.Hide
import Derived.WalkSpells
import Derived.WalkLawsBesides
import Derived.Deep.QuietTactic
import Derived.BigQuiet
import Derived.Deep.RegionWith
import Derived.Deep.RegionHeld3
import Derived.Lib.QuietBelow
import Derived.IntWalk
import Derived.Laws.BitsAllLaws
import Derived.Deep.LoopGhost
namespace Go.Proofs.Ythanjfnpohhebaa
open Go.RowKit
set_option linter.unusedVariables false

theorem ret_bool {a b : Bool} (h : a = b) : Ending.returned (.bool a) = .returned (.bool b) := by rw [h]
theorem ret_int {k : IntKind} {a b : Int} (h : a = b) : Ending.returned (.int k a) = .returned (.int k b) := by rw [h]
/-- byte k of a list -/
def bt (l : List Nat) (k : Nat) : Nat := l.getD k 0
theorem bt_get {l : List Nat} {k : Nat} (h : k < l.length) : l[k]? = some (bt l k) := by simp [bt, h]
theorem bt_append_left {l m : List Nat} {k : Nat} (h : k < l.length) : bt (l ++ m) k = bt l k := by simp [bt, List.getElem?_append_left h]
theorem bt_append_right {l m : List Nat} {k : Nat} (h : l.length ≤ k) : bt (l ++ m) k = bt m (k - l.length) := by simp [bt, List.getElem?_append_right h]
theorem bt_append_add (l m : List Nat) (k : Nat) : bt (l ++ m) (l.length + k) = bt m k := by rw [bt_append_right (by omega), Nat.add_sub_cancel_left]
theorem bt_drop (l : List Nat) (i k : Nat) : bt (l.drop i) k = bt l (i + k) := by simp [bt, List.getElem?_drop]
theorem bt_take {l : List Nat} {i k : Nat} (h : k < i) : bt (l.take i) k = bt l k := by simp [bt, h]
theorem bt_set (l : List Nat) (i k x : Nat) (h : i < l.length) : bt (l.set i x) k = if k = i then x else bt l k := by
  by_cases e : k = i
  · subst e; simp [bt, h]
  · rw [if_neg e]; unfold bt; simp [List.getD, List.getElem?_set_ne (Ne.symm e)]
theorem bt_mem {l : List Nat} {k : Nat} (h : k < l.length) : bt l k ∈ l := List.mem_of_getElem? (bt_get h)
theorem ext_bt {l m : List Nat} (hl : l.length = m.length) (h : ∀ k, k < l.length → bt l k = bt m k) : l = m := by
  apply List.ext_getElem? 
  intro k
  by_cases hk : k < l.length
  · rw [bt_get hk, bt_get (by omega), h k hk]
  · rw [List.getElem?_eq_none (by omega), List.getElem?_eq_none (by omega)]

abbrev u8v (n : Nat) : Value := .int .u8 (n : Int)
abbrev cs (l : List Nat) : List Value := l.map u8v
theorem cs_at {l : List Nat} {j : Nat} {u : Value} (h : (cs l)[j]? = some u) : j < l.length ∧ u = u8v (bt l j) := by
  rw [List.getElem?_map, Option.map_eq_some_iff] at h
  obtain ⟨x, hx, rfl⟩ := h
  have hj := (List.getElem?_eq_some_iff.1 hx).1
  rw [bt_get hj] at hx
  exact ⟨hj, by rw [Option.some.inj hx]⟩
theorem cs_one (l : List Nat) : ∀ u ∈ cs l, u.oneCell' = true := by
  intro u hu
  obtain ⟨x, _, rfl⟩ := List.mem_map.1 hu
  rfl

/-- the cells from ao on hold these bytes -/
structure Rd (w : World) (ao : Option Addr) (l : List Nat) : Prop where
  lt : ∀ c ∈ l, c < 256
  at_ : ∀ j, j < l.length → ∃ g o, ao = some ⟨g, o, none⟩ ∧ g < w.heap.size ∧ w.cell? ⟨g, o + j, none⟩ = some (u8v (bt l j))
theorem Rd.byte {w : World} {ao : Option Addr} {l : List Nat} (h : Rd w ao l) (j : Nat) : bt l j < 256 := by
  by_cases hj : j < l.length
  · exact h.lt _ (bt_mem hj)
  · simp [bt, show l.length ≤ j by omega]
theorem Rd.nil (w : World) (ao : Option Addr) : Rd w ao [] := ⟨by simp, by simp⟩

/-- w' is w with new blocks, and in the blocks of S perhaps turned -/
structure Keep (S : List Nat) (w w' : World) : Prop where
  os : w'.os = w.os
  tape : w'.tape = w.tape
  output : w'.output = w.output
  size : w.heap.size ≤ w'.heap.size
  block : ∀ k, k < w.heap.size → k ∉ S → w'.heap[k]? = w.heap[k]?
theorem Keep.refl (S : List Nat) (w : World) : Keep S w w := ⟨rfl, rfl, rfl, Nat.le_refl _, fun _ _ _ => rfl⟩
theorem Keep.mono {S T : List Nat} {w w' : World} (h : Keep S w w') (hs : ∀ k ∈ S, k ∈ T ∨ w.heap.size ≤ k) : Keep T w w' :=
  ⟨h.os, h.tape, h.output, h.size, fun k hk hn => h.block k hk fun hm => by rcases hs k hm with h1 | h1; exact hn h1; omega⟩
theorem Keep.trans {S : List Nat} {a b c : World} (h : Keep S a b) (k : Keep S b c) : Keep S a c :=
  ⟨k.os.trans h.os, k.tape.trans h.tape, k.output.trans h.output, Nat.le_trans h.size k.size, fun i hi hn => (k.block i (Nat.lt_of_lt_of_le hi h.size) hn).trans (h.block i hi hn)⟩
theorem Keep.of_below {w w' : World} (h : Below w.heap.size w w') (S : List Nat) : Keep S w w' := ⟨h.os, h.tape, h.output, h.size, fun k hk _ => h.block k hk⟩
theorem Keep.below {S : List Nat} {B : Nat} {w w' : World} (h : Keep S w w') (hB : B ≤ w.heap.size) (hs : ∀ k ∈ S, B ≤ k) : Below B w w' :=
  ⟨h.os, h.tape, h.output, h.size, fun k hk => h.block k (by omega) fun hm => by have := hs k hm; omega⟩
theorem Keep.nil {w w' : World} (h : Keep [] w w') : Below w.heap.size w w' := h.below (Nat.le_refl _) (by simp)
theorem Keep.cell {S : List Nat} {w w' : World} (h : Keep S w w') {a : Addr} (ha : a.block < w.heap.size) (hn : a.block ∉ S) : w'.cell? a = w.cell? a := World.cell?_of_block (w := w) (h.block _ ha hn)
theorem Keep.frozen {S : List Nat} {w w' : World} (h : Keep S w w') {a : Addr} (ha : a.block < w.heap.size) (hn : a.block ∉ S) : w'.frozen? a = w.frozen? a := World.frozen?_of_block (w := w) (h.block _ ha hn)
theorem Keep.setCell (w : World) (a : Addr) (v : Value) : Keep [a.block] w (w.setCell a v) :=
  ⟨rfl, rfl, rfl, by simp [World.setCell], fun k _ hn => Below.heap_setCell _ _ _ _ (by simpa using hn)⟩
theorem Keep.setRow (w : World) (g : Nat) (cs : Array Value) : Keep [g] w (w.setRow g cs) :=
  ⟨rfl, rfl, rfl, by simp [World.setRow], fun k _ hn => setRow_other _ _ _ _ (by simpa using hn)⟩
theorem Keep.alloc {S : List Nat} {a w : World} (h : Keep S a w) (o : Obj) : Keep S a (w.alloc o) := h.trans (.of_below (below_alloc (Below.refl _ _) o) S)

/-- the block of an address, if it is one -/
def blk : Option Addr → List Nat
  | some a => [a.block]
  | none => []

theorem Rd.keep {w w' : World} {ao : Option Addr} {l : List Nat} {S : List Nat} (h : Rd w ao l) (k : Keep S w w') (hn : ∀ g ∈ blk ao, g ∉ S) : Rd w' ao l := by
  refine ⟨h.lt, fun j hj => ?_⟩
  obtain ⟨g, o, rfl, h2, h3⟩ := h.at_ j hj
  exact ⟨g, o, rfl, Nat.lt_of_lt_of_le h2 k.size, (k.cell h2 (hn g (by simp [blk]))).trans h3⟩
theorem Rd.below {w w' : World} {ao : Option Addr} {l : List Nat} (h : Rd w ao l) (b : Below w.heap.size w w') : Rd w' ao l := h.keep (Keep.of_below b []) (by simp)
/-- the slice from lo on, of k bytes -/
theorem Rd.sub {w : World} {ao : Option Addr} {l : List Nat} (h : Rd w ao l) (cap lo k : Nat) (hc : l.length ≤ cap) : Rd w (if cap = lo then ao else ao.map fun x => x.add lo) ((l.drop lo).take k) := by
  refine ⟨fun c hc => h.lt c (List.mem_of_mem_drop (List.mem_of_mem_take hc)), fun j hj => ?_⟩
  simp at hj
  obtain ⟨g, o, rfl, h2, h3⟩ := h.at_ (lo + j) (by omega)
  refine ⟨g, o + lo, ?_, h2, ?_⟩
  · rw [if_neg (by omega)]; simp [Addr.add_lit]
  · rw [bt_take (by omega), bt_drop, Nat.add_assoc]; exact h3
theorem Rd.rest {w : World} {ao : Option Addr} {l : List Nat} (h : Rd w ao l) (cap lo : Nat) (hc : l.length ≤ cap) : Rd w (if cap = lo then ao else ao.map fun x => x.add lo) (l.drop lo) := by
  have := h.sub cap lo l.length hc
  rwa [List.take_of_length_le (by simp)] at this
theorem Rd.take {w : World} {ao : Option Addr} {l : List Nat} (h : Rd w ao l) (k : Nat) : Rd w ao (l.take k) := by
  refine ⟨fun c hc => h.lt c (List.mem_of_mem_take hc), fun j hj => ?_⟩
  simp at hj
  obtain ⟨g, o, rfl, h2, h3⟩ := h.at_ j (by omega)
  exact ⟨g, o, rfl, h2, by rw [bt_take (by omega)]; exact h3⟩

/-- a slice of bytes in a row of the call's own (from block B on) -/
structure Own (w : World) (B : Nat) (ao : Option Addr) (n cap : Nat) (l : List Nat) : Prop where
  len : l.length = n
  le : n ≤ cap
  max : cap ≤ maxLen
  lt : ∀ c ∈ l, c < 256
  no : ao = none → cap = 0
  row : ∀ a, ao = some a → ∃ g o row, a = ⟨g, o, none⟩ ∧ B ≤ g ∧ w.heap[g]? = some (.cells row 5 (0, 0)) ∧ o + cap ≤ row.size ∧ ∀ j, j < n → row[o + j]? = some (u8v (bt l j))
section
variable {w w' : World} {B : Nat} {ao : Option Addr} {n cap : Nat} {l : List Nat}
theorem Own.nil (w : World) (B : Nat) : Own w B none 0 0 [] := ⟨rfl, Nat.le_refl _, Nat.zero_le _, by simp, fun _ => rfl, fun a h => by cases h⟩
theorem Own.rd (h : Own w B ao n cap l) : Rd w ao l := by
  refine ⟨h.lt, fun j hj => ?_⟩
  have hn := h.len
  have hle := h.le
  cases ao with
  | none => have := h.no rfl; omega
  | some a =>
    obtain ⟨g, o, row, rfl, h2, h3, h4, h5⟩ := h.row a rfl
    refine ⟨g, o, rfl, (Array.getElem?_eq_some_iff.1 h3).1, ?_⟩
    rw [cell_of_row w g (o + j) row _ (0, 0) h3]
    exact h5 j (by omega)
theorem Own.lt_size (h : Own w B ao n cap l) : ∀ g ∈ blk ao, B ≤ g ∧ g < w.heap.size := by
  intro g hg
  cases ao with
  | none => simp [blk] at hg
  | some a =>
    obtain ⟨g', o, row, rfl, h2, h3, _⟩ := h.row a rfl
    simp [blk] at hg
    subst hg
    exact ⟨h2, (Array.getElem?_eq_some_iff.1 h3).1⟩
theorem Own.keep {S : List Nat} (h : Own w B ao n cap l) (k : Keep S w w') (hn : ∀ g ∈ blk ao, g ∉ S) : Own w' B ao n cap l := by
  refine ⟨h.len, h.le, h.max, h.lt, h.no, fun a ha => ?_⟩
  obtain ⟨g, o, row, rfl, h2, h3, h4⟩ := h.row a ha
  subst ha
  exact ⟨g, o, row, rfl, h2, (k.block g (Array.getElem?_eq_some_iff.1 h3).1 (hn g (by simp [blk]))).trans h3, h4⟩
theorem Own.below (h : Own w B ao n cap l) (b : Below w.heap.size w w') : Own w' B ao n cap l := h.keep (Keep.of_below b []) (by simp)
theorem Own.base {B' : Nat} (h : Own w B ao n cap l) (hb : B' ≤ B) : Own w B' ao n cap l :=
  ⟨h.len, h.le, h.max, h.lt, h.no, fun a ha => by obtain ⟨g, o, row, h1, h2, h3⟩ := h.row a ha; exact ⟨g, o, row, h1, by omega, h3⟩⟩
/-- an owned row as the library says it -/
theorem Own.of_owns {e : Nat} {v : Value} (he : e = 5) (h : w.ownsRow B e 1 v n (cs l)) (hl : ∀ c ∈ l, c < 256) : ∃ ao cap, v = .slice ao n cap ∧ Own w B ao n cap l := by
  subst he
  have hlen : l.length = n := by simpa using h.1
  rcases h.2 with ⟨rfl, rfl⟩ | ⟨g, cap, cur, rfl, hb, hg, hnc, hcm, hcs, ht⟩
  · refine ⟨none, 0, rfl, ?_⟩
    obtain rfl : l = [] := List.eq_nil_of_length_eq_zero hlen
    exact Own.nil w B
  · refine ⟨_, cap, rfl, hlen, hnc, hcm, hl, by simp, fun a ha => ?_⟩
    cases ha
    refine ⟨g, 0, cur, rfl, hb, hg, by omega, fun j hj => ?_⟩
    have := congrArg (·[j]?) ht
    simp only [List.getElem?_take, Nat.mul_one] at this
    rw [if_pos hj] at this
    rw [Nat.zero_add, ← Array.getElem?_toList, this, List.getElem?_map, bt_get (by omega)]
    rfl
/-- a store -/
theorem Own.set {g o : Nat} (h : Own w B (some ⟨g, o, none⟩) n cap l) (i x : Nat) (hi : i < n) (hx : x < 256) : Own (w.setCell ⟨g, o + i, none⟩ (u8v x)) B (some ⟨g, o, none⟩) n cap (l.set i x) := by
  have hlen := h.len
  refine ⟨by simpa using h.len, h.le, h.max, fun c hc => ?_, by simp, fun a ha => ?_⟩
  · rcases List.mem_or_eq_of_mem_set hc with h1 | rfl
    · exact h.lt c h1
    · exact hx
  · obtain ⟨g', o', row, e, h2, h3, h4, h5⟩ := h.row _ rfl
    cases ha
    simp only [Addr.mk.injEq, and_true] at e
    obtain ⟨rfl, rfl⟩ := e
    refine ⟨g, o, row.setIfInBounds (o + i) (u8v x), rfl, h2, heap_setCell_same w g (o + i) row _ _ h3, by simpa using h4, fun j hj => ?_⟩
    rw [bt_set l i j x (by omega)]
    by_cases e : j = i
    · subst e
      rw [if_pos rfl, Array.getElem?_setIfInBounds_self_of_lt (by have := h.le; omega)]
    · rw [if_neg e, Array.getElem?_setIfInBounds_ne (by omega)]
      exact h5 j hj
theorem Own.free {g o : Nat} (h : Own w B (some ⟨g, o, none⟩) n cap l) (i : Nat) : w.frozen? ⟨g, o + i, none⟩ = false := by
  obtain ⟨g', o', row, e, h2, h3, _⟩ := h.row _ rfl
  cases e
  exact frozen_of_row w g _ row _ h3
theorem Own.at_ (h : Own w B ao n cap l) (j : Nat) (hj : j < n) : ∃ g o, ao = some ⟨g, o, none⟩ ∧ B ≤ g ∧ g < w.heap.size ∧ w.cell? ⟨g, o + j, none⟩ = some (u8v (bt l j)) ∧ w.frozen? ⟨g, o + j, none⟩ = false := by
  obtain ⟨g, o, rfl, h2, h3⟩ := h.rd.at_ j (by have := h.len; omega)
  exact ⟨g, o, rfl, (h.lt_size g (by simp [blk])).1, h2, h3, h.free j⟩
/-- cut at its ends -/
theorem Own.sub (h : Own w B ao n cap l) (lo hi : Nat) (h1 : lo ≤ hi) (h2 : hi ≤ n) : Own w B (if cap = lo then ao else ao.map fun x => x.add lo) (hi - lo) (cap - lo) ((l.drop lo).take (hi - lo)) := by
  have hlen := h.len
  have hle := h.le
  refine ⟨by simp; omega, by omega, by have := h.max; omega, fun c hc => h.lt c (List.mem_of_mem_drop (List.mem_of_mem_take hc)), fun hn => ?_, fun a ha => ?_⟩
  · cases ao with
    | none => have := h.no rfl; omega
    | some a => split at hn <;> simp at hn
  · cases ao with
    | none => split at ha <;> simp at ha
    | some a' =>
      obtain ⟨g, o, row, rfl, h3, h4, h5, h6⟩ := h.row a' rfl
      by_cases e : cap = lo
      · rw [if_pos e] at ha
        cases ha
        exact ⟨g, o, row, rfl, h3, h4, by omega, fun j hj => by omega⟩
      · rw [if_neg e] at ha
        simp [Addr.add_lit] at ha
        subst ha
        refine ⟨g, o + lo, row, rfl, h3, h4, by omega, fun j hj => ?_⟩
        rw [bt_take hj, bt_drop, Nat.add_assoc]
        exact h6 (lo + j) (by omega)
theorem Own.take (h : Own w B ao n cap l) (k : Nat) (hk : k ≤ n) : Own w B ao k cap (l.take k) := by
  have hlen := h.len
  refine ⟨by simp; omega, by have := h.le; omega, h.max, fun c hc => h.lt c (List.mem_of_mem_take hc), h.no, fun a ha => ?_⟩
  obtain ⟨g, o, row, h1, h2, h3, h4, h5⟩ := h.row a ha
  exact ⟨g, o, row, h1, h2, h3, h4, fun j hj => by rw [bt_take hj]; exact h5 j (by omega)⟩
theorem blk_sub (ao : Option Addr) (cap lo : Nat) : ∀ g ∈ blk (if cap = lo then ao else ao.map fun x => x.add lo), g ∈ blk ao := by
  intro g hg
  cases ao with
  | none => split at hg <;> simp [blk] at hg
  | some a =>
    have hb : (a.add lo).block = a.block := by unfold Addr.add; split <;> rfl
    split at hg
    · exact hg
    · simp only [Option.map_some, blk, hb] at hg ⊢; exact hg
end

/-- the same at a known place, as the walk spells it -/
theorem Rd.off {w : World} {g o : Nat} {l : List Nat} (h : Rd w (some ⟨g, o, none⟩) l) (lo k : Nat) : Rd w (some ⟨g, o + lo, none⟩) ((l.drop lo).take k) := by
  refine ⟨fun c hc => h.lt c (List.mem_of_mem_drop (List.mem_of_mem_take hc)), fun j hj => ?_⟩
  simp at hj
  obtain ⟨g', o', e, h2, h3⟩ := h.at_ (lo + j) (by omega)
  cases e
  exact ⟨g, o + lo, rfl, h2, by rw [bt_take (by omega), bt_drop, Nat.add_assoc]; exact h3⟩
theorem Rd.offr {w : World} {g o : Nat} {l : List Nat} (h : Rd w (some ⟨g, o, none⟩) l) (lo : Nat) : Rd w (some ⟨g, o + lo, none⟩) (l.drop lo) := by
  have := h.off lo l.length
  rwa [List.take_of_length_le (by simp)] at this
theorem Rd.ifr {w : World} {g o : Nat} {l : List Nat} (h : Rd w (some ⟨g, o, none⟩) l) (cap lo : Nat) (hc : l.length ≤ cap) : Rd w (if cap = lo then some ⟨g, o, none⟩ else some ⟨g, o + lo, none⟩) (l.drop lo) := by
  have := h.rest cap lo hc
  simpa [Addr.add_lit] using this
theorem Own.ifr {w : World} {B g o n cap : Nat} {l : List Nat} (h : Own w B (some ⟨g, o, none⟩) n cap l) (lo : Nat) (hl : lo ≤ n) : Own w B (if cap = lo then some ⟨g, o, none⟩ else some ⟨g, o + lo, none⟩) (n - lo) (cap - lo) (l.drop lo) := by
  have := h.sub lo n hl (Nat.le_refl _)
  rw [List.take_of_length_le (by have := h.len; simp; omega)] at this
  simpa [Addr.add_lit] using this
theorem Own.off {w : World} {B g o n cap : Nat} {l : List Nat} (h : Own w B (some ⟨g, o, none⟩) n cap l) (lo hi : Nat) (h1 : lo ≤ hi) (h2 : hi ≤ n) (h3 : lo < cap) : Own w B (some ⟨g, o + lo, none⟩) (hi - lo) (cap - lo) ((l.drop lo).take (hi - lo)) := by
  have := h.sub lo hi h1 h2
  rw [if_neg (by omega)] at this
  simpa [Addr.add_lit] using this
theorem Own.offr {w : World} {B g o n cap : Nat} {l : List Nat} (h : Own w B (some ⟨g, o, none⟩) n cap l) (lo : Nat) (h2 : lo ≤ n) (h3 : lo < cap) : Own w B (some ⟨g, o + lo, none⟩) (n - lo) (cap - lo) (l.drop lo) := by
  have := h.off lo n h2 (Nat.le_refl _) h3
  rwa [List.take_of_length_le (by have := h.len; simp; omega)] at this
theorem blk_if (g o cap lo : Nat) : ∀ k ∈ blk (if cap = lo then some ⟨g, o, none⟩ else some ⟨g, o + lo, none⟩), k = g := by
  intro k hk
  split at hk <;> simpa [blk] using hk
/-- where a slice that is cut at lo begins -/
def sh (ao : Option Addr) (cap lo : Nat) : Option Addr := if cap = lo then ao else ao.map fun x => x.add lo
theorem Rd.sh {w : World} {ao : Option Addr} {l : List Nat} (h : Rd w ao l) (cap lo : Nat) (hc : l.length ≤ cap) : Rd w (sh ao cap lo) (l.drop lo) := h.rest cap lo hc
theorem Rd.sh2 {w : World} {ao : Option Addr} {l : List Nat} (h : Rd w ao l) (cap lo k : Nat) (hc : l.length ≤ cap) : Rd w (Ythanjfnpohhebaa.sh ao cap lo) ((l.drop lo).take k) := h.sub cap lo k hc
theorem Own.sh {w : World} {B n cap : Nat} {ao : Option Addr} {l : List Nat} (h : Own w B ao n cap l) (lo : Nat) (hl : lo ≤ n) : Own w B (Ythanjfnpohhebaa.sh ao cap lo) (n - lo) (cap - lo) (l.drop lo) := by
  have := h.sub lo n hl (Nat.le_refl _)
  rwa [List.take_of_length_le (by have := h.len; simp; omega)] at this
theorem Own.sh2 {w : World} {B n cap : Nat} {ao : Option Addr} {l : List Nat} (h : Own w B ao n cap l) (lo hi : Nat) (h1 : lo ≤ hi) (h2 : hi ≤ n) : Own w B (Ythanjfnpohhebaa.sh ao cap lo) (hi - lo) (cap - lo) ((l.drop lo).take (hi - lo)) := h.sub lo hi h1 h2
theorem blk_sh (ao : Option Addr) (cap lo : Nat) : ∀ g ∈ blk (sh ao cap lo), g ∈ blk ao := blk_sub ao cap lo
theorem sh_lt (g o cap lo : Nat) (h : cap ≠ lo) : sh (some ⟨g, o, none⟩) cap lo = some ⟨g, o + lo, none⟩ := by
  unfold Ythanjfnpohhebaa.sh; rw [if_neg h]; simp [Addr.add_lit]
theorem byte_elem : Try.prog.underlying 39 = some (.slice (Try.prog.elem 39)) := by kernel_rfl
theorem byte_size (w : World) : (sizeOf (Try.prog.elem 39)).run Try.prog w = .ok 1 w := by kernel_rfl
theorem run_cut2 (w : World) (ao : Option Addr) (n cap lo : Nat) (h : lo ≤ n) : (Instr.sliceAt 39 (.slice ao n cap) (some (.int .i64 (lo : Int))) none none).run Try.prog w = .ok (.slice (sh ao cap lo) (n - lo) (cap - lo)) w := by
  rw [run_sliceAt_slice _ _ _ _ _ _ byte_elem, run_slice_l w _ ao n cap byte_elem .i64 (lo : Int) (by omega) (by omega), byte_size]
  simp [Result.andThen, sliced, Ythanjfnpohhebaa.sh]
theorem run_cut3 (w : World) (ao : Option Addr) (n cap lo hi : Nat) (h1 : lo ≤ hi) (h2 : hi ≤ cap) : (Instr.sliceAt 39 (.slice ao n cap) (some (.int .i64 (lo : Int))) (some (.int .i64 (hi : Int))) none).run Try.prog w = .ok (.slice (sh ao cap lo) (hi - lo) (cap - lo)) w := by
  rw [run_sliceAt_slice _ _ _ _ _ _ byte_elem, run_slice_lh w _ ao n cap byte_elem .i64 .i64 (lo : Int) (hi : Int) (by omega) (by omega) (by omega), byte_size]
  simp [Result.andThen, sliced, Ythanjfnpohhebaa.sh]
/-- an operation that yields v and leaves the world -/
theorem wpList_value {P : Program} {ops : Array Oper} {rest : List Oper} {o : Oper} {a : Act} {w : World} {Q : Exit → Act → World → Prop} (hg : o.guard = none) (v : Value)
    (hrun : (execOp a.eval o).run P w = .ok (.value v) w) (h : wpList P ops Q rest (a.put o.dst v) w) : wpList P ops Q (o :: rest) a w :=
  wpList_plain hg fun K hK => by
    unfold Oper.wp
    simp only [hrun, Oper.upon]
    exact hK _ _ h
theorem exec_slice {P : Program} {o : Oper} {a : Act} {w : World} {v vx : Value} {lv hv : Option Value} (t : TypeId) (x : Operand) (lo hi : Option Operand) (ho : o.op = .slice t x lo hi none) (hx : a.eval x = vx) (hl : lo.map a.eval = lv) (hh : hi.map a.eval = hv)
    (h : (Instr.sliceAt t vx lv hv none).run P w = .ok v w) : (execOp a.eval o).run P w = .ok (.value v) w := by
  unfold execOp
  simp only [ho, hx, hl, hh, Option.map_none, Sem.run_bind, h, Result.andThen_ok, Sem.run_pure]
theorem quiet_value {P : Program} {o : Oper} {a : Act} {C : World → Prop} {K : Act → Prop} (v : Value) (h : ∀ w, C w → (execOp a.eval o).run P w = .ok (.value v) w) (hk : K (a.put o.dst v)) : o.quiet P a C K :=
  ⟨v, fun w hw => by unfold Oper.quietAt; rw [h w hw]; exact ⟨rfl, rfl⟩, hk⟩
theorem Own.step {a w w2 : World} {B : Nat} {ao : Option Addr} {n cap : Nat} {l : List Nat} (ho : Own w B ao n cap l) (hb : Below B a w) (hB : B ≤ w.heap.size) (hk : Keep (blk ao) w w2) : Below B a w2 :=
  hb.trans (hk.below hB fun g hg => (ho.lt_size g hg).1)

theorem byte_info : (Try.prog.info? 5).map (fun i => (i.zero, i.size, i.bytes)) = some (some (.int .u8 0), 1, 1) := by kernel_rfl

/-- where there is room, from whatever place of a row on -/
theorem run_append_room_off {P : Program} (w : World) (t ty e : TypeId) (i : TypeInfo) (ht : P.underlying t = some (.slice e)) (hi : P.info? e = some i) (hs : i.size = 1)
    (g off sLen sCap : Nat) (cur : Array Value) (hg : w.heap[g]? = some (.cells cur e (0, 0)))
    (a : Addr) (m c : Nat) (news : List Value) (hl : news.length = m) (hnews : ∀ j u, news[j]? = some u → w.cell? (a.add j) = some u) (h1 : ∀ u ∈ news, u.oneCell' = true)
    (hroom : sLen + m ≤ sCap) (hfit : off + sLen + news.length ≤ cur.size) :
    (Builtin.append_ #[t, t] ty #[.slice (some ⟨g, off, none⟩) sLen sCap, .slice (some a) m c]).run P w =
      .ok (.slice (some ⟨g, off, none⟩) (sLen + m) sCap) (w.setRow g (cur.toList.take (off + sLen) ++ news ++ cur.toList.drop (off + sLen + news.length)).toArray) := by
  have hf := run_firstCells_some (P := P) w i.size m a m c news (by rw [hs]; omega) hnews
  have hst := run_storeCells_at P g (off + sLen) e news 0 cur w hg (by simpa using hfit) h1
  simp only [Nat.add_zero] at hst
  rw [hs] at hf
  simp [Builtin.append_, run_underlying ht, sizeOf, typeInfo, hi, hs, Builtin.lenOf, hroom, hf, Addr.add_lit, hst]

section
variable {w : World} {B : Nat} {ao : Option Addr} {n cap : Nat} {l : List Nat}
/-- APPEND: to a slice of the call's own, from whatever bytes -/
theorem Own.run_app (h : Own w B ao n cap l) {xo : Option Addr} {m : Nat} (c : Nat) {ms : List Nat} (hx : Rd w xo ms) (hm : ms.length = m) (hB : B ≤ w.heap.size) (hbig : n + m ≤ 140737488355328) (ty : TypeId) :
    ∃ ao' cap' w', (Builtin.append_ #[39, 39] ty #[.slice ao n cap, .slice xo m c]).run Try.prog w = .ok (.slice ao' (n + m) cap') w' ∧ Own w' B ao' (n + m) cap' (l ++ ms) ∧ Keep (blk ao) w w' ∧
      (∀ g ∈ blk ao', g ∈ blk ao ∨ w.heap.size ≤ g) ∧ (ao' = ao ∨ ∀ g ∈ blk ao', w.heap.size ≤ g) ∧ ∀ g o j, ao = some ⟨g, o, none⟩ → j < o + n → w'.cell? ⟨g, j, none⟩ = w.cell? ⟨g, j, none⟩ := by
  obtain ⟨i0, hi, hz0, hz1, hz2⟩ := info_parts byte_info
  have hlen := h.len
  have hlt : ∀ c ∈ l ++ ms, c < 256 := fun c hc => by rcases List.mem_append.1 hc with h1 | h1; exact h.lt c h1; exact hx.lt c h1
  have hml : maxLen = 9223372036854775807 := rfl
  by_cases h0 : m = 0
  · subst h0
    obtain rfl : ms = [] := List.eq_nil_of_length_eq_zero hm
    refine ⟨ao, cap, w, ?_, by simpa using h, Keep.refl _ _, fun g hg => .inl hg, .inl rfl, fun _ _ _ _ _ => rfl⟩
    refine run_append_nothing w _ _ ty 5 i0 Try.underlying39 hi ao n cap h.le _ ?_
    cases xo with
    | none => exact Src.ofNil w Try.underlying39 c
    | some a => exact Src.ofSlice w Try.underlying39 a 0 c [] (by simp) (by simp) (by simp)
  · obtain ⟨gx, ox, rfl, _, _⟩ := hx.at_ 0 (by omega)
    have hnews : ∀ j u, (cs ms)[j]? = some u → w.cell? ((⟨gx, ox, none⟩ : Addr).add j) = some u := by
      intro j u hu
      obtain ⟨hj, rfl⟩ := cs_at hu
      obtain ⟨g, o, e, _, h3⟩ := hx.at_ j hj
      cases e
      rw [Addr.add_lit]; exact h3
    have hcl : (cs ms).length = m := by simpa using hm
    cases ao with
    | none =>
      have hc0 := h.no rfl
      have hn0 : n = 0 := by have := h.le; omega
      subst hc0; subst hn0
      obtain rfl : l = [] := List.eq_nil_of_length_eq_zero hlen
      obtain ⟨v', w', hr, h2, h3, _⟩ := run_append_own (P := Try.prog) w w.heap.size 39 ty 5 i0 (.int .u8 0) 1 1 Try.underlying39 hi hz0 hz1 hz2 rfl (by decide) (.slice none 0 0) 0 [] (World.ownsRow_nil _ _ _ _) ⟨gx, ox, none⟩ m c (cs ms) (by rw [hcl]; omega) hnews (cs_one _) (by omega) (by omega) (Nat.le_refl _)
      obtain ⟨ao', cap', rfl, ho⟩ := Own.of_owns (l := ms) rfl (by simpa using h2) hx.lt
      rw [Nat.zero_add]
      refine ⟨ao', cap', w', hr, by simpa using ho.base hB, ⟨h3.os, h3.tape, h3.output, h3.size, fun k hk _ => h3.block k hk (by simp [Value.ownBlock])⟩, fun g hg => .inr (ho.lt_size g hg).1, .inr (fun g hg => (ho.lt_size g hg).1), fun _ _ _ e => by cases e⟩
    | some a =>
      obtain ⟨g, o, row, rfl, hbg, hg, hfit, hrow⟩ := h.row a rfl
      by_cases hroom : n + m ≤ cap
      · have hr := run_append_room_off (P := Try.prog) w 39 ty 5 i0 Try.underlying39 hi hz1 g o n cap row hg ⟨gx, ox, none⟩ m c (cs ms) hcl hnews (cs_one _) hroom (by rw [hcl]; omega)
        refine ⟨_, _, _, hr, ⟨by simp; omega, hroom, h.max, hlt, by simp, fun a ha => ?_⟩, Keep.setRow _ _ _, fun g hg => .inl hg, .inl rfl, fun g2 o2 j e hj => by
          cases e
          rw [cell_of_row _ g j _ _ (0, 0) (setRow_heap w g row _ _ _ hg), cell_of_row _ g j _ _ (0, 0) hg, List.getElem?_toArray, List.append_assoc, List.getElem?_append_left (by simp; omega), List.getElem?_take, if_pos hj, Array.getElem?_toList]⟩
        cases ha
        refine ⟨g, o, _, rfl, hbg, setRow_heap w g row _ _ _ hg, ?_, fun j hj => ?_⟩
        · simp; omega
        · rw [List.getElem?_toArray]
          by_cases hjn : j < n
          · rw [bt_append_left (by omega), List.append_assoc, List.getElem?_append_left (by simp; omega), List.getElem?_take, if_pos (by omega), Array.getElem?_toList]
            exact hrow j hjn
          · rw [List.append_assoc, List.getElem?_append_right (by simp; omega), List.getElem?_append_left (by simp; omega)]
            rw [bt_append_right (by omega), List.getElem?_map]
            have e : o + j - (List.take (o + n) row.toList).length = j - l.length := by simp; omega
            rw [e, bt_get (by omega)]
            rfl
      · have holds : ∀ j u, (cs l)[j]? = some u → w.cell? ((⟨g, o, none⟩ : Addr).add j) = some u := by
          intro j u hu
          obtain ⟨hj, rfl⟩ := cs_at hu
          rw [Addr.add_lit, cell_of_row w g (o + j) row _ (0, 0) hg]
          exact hrow j (by omega)
        obtain ⟨v', w', hr, h2, h3⟩ := run_append_arg_grows (P := Try.prog) w 39 ty 5 i0 (.int .u8 0) 1 1 Try.underlying39 hi hz0 hz1 hz2 rfl (by decide) ⟨g, o, none⟩ n cap (cs l) (by simpa using hlen) holds ⟨gx, ox, none⟩ m c (cs ms) (by rw [hcl]; omega) hnews (by omega) (by omega) (by omega)
        obtain ⟨ao', cap', rfl, ho⟩ := Own.of_owns (l := l ++ ms) rfl (by simpa using h2) hlt
        exact ⟨ao', cap', w', hr, ho.base hB, ⟨h3.os, h3.tape, h3.output, h3.size, fun k hk _ => h3.block k hk (by simp)⟩, fun g hg => .inr (ho.lt_size g hg).1, .inr (fun g hg => (ho.lt_size g hg).1), fun g2 o2 j e hj => by
          cases e
          exact World.cell?_of_block (w := w) (h3.block g (Array.getElem?_eq_some_iff.1 hg).1 (by simp))⟩
end

/-- the law at an append of bytes -/
theorem wpList_app {w : World} {ops : Array Oper} {rest : List Oper} {o : Oper} {a : Act} {Q : Exit → Act → World → Prop} (hgd : o.guard = none) (s x : Operand)
    (ho : o.op = .call { callee := .builtin .append, args := #[s, x], argTypes := #[39, 39] })
    {B : Nat} {ao : Option Addr} {n cap : Nat} {l : List Nat} (hs : a.eval s = .slice ao n cap) (hown : Own w B ao n cap l)
    {xo : Option Addr} {m c : Nat} {ms : List Nat} (hx : a.eval x = .slice xo m c) (hrd : Rd w xo ms) (hm : ms.length = m) (hB : B ≤ w.heap.size) (hbig : n + m ≤ 140737488355328)
    (h : ∀ ao' cap' w', Own w' B ao' (n + m) cap' (l ++ ms) → Keep (blk ao) w w' → (∀ g ∈ blk ao', g ∈ blk ao ∨ w.heap.size ≤ g) → wpList Try.prog ops Q rest (a.put o.dst (.slice ao' (n + m) cap')) w') : wpList Try.prog ops Q (o :: rest) a w := by
  obtain ⟨ao', cap', w', hr, h2, h3, h4, _⟩ := hown.run_app c hrd hm hB hbig o.type
  refine wpList_plain hgd fun K hK => ?_
  unfold Oper.wp execOp
  simp only [ho, resolve, invoke, builtin, Sem.run_bind, Sem.run_pure, Result.andThen_ok, List.map_toArray, List.map_cons, List.map_nil, hs, hx, hr]
  exact hK _ _ (h ao' cap' w' h2 h3 h4)

theorem same_below {P : Program} {n : Nat} {xs : Array Value} {w : World} {r : Ending} (h : Calls P n xs w fun e w' => e = r ∧ w = w') : Calls P n xs w fun e w' => e = r ∧ Below w.heap.size w w' :=
  h.mono fun e w' ⟨h1, h2⟩ => ⟨h1, h2 ▸ Below.refl _ _⟩
/-- a slice of bytes has been made -/
def Made (w : World) (l : List Nat) (e : Ending) (w' : World) : Prop :=
  ∃ ao cap, e = .returned (.slice ao l.length cap) ∧ Own w' w.heap.size ao l.length cap l ∧ Below w.heap.size w w'
theorem Own.one (w : World) (B x : Nat) (hx : x < 256) (hB : B ≤ w.heap.size) : Own (w.alloc (.cells #[u8v x] 5)) B (some ⟨w.heap.size, 0, none⟩) 1 1 [x] := by
  refine ⟨rfl, Nat.le_refl _, by decide, by simpa using hx, by simp, fun a ha => ?_⟩
  cases ha
  refine ⟨_, 0, _, rfl, hB, heap_alloc_new w _, by simp, fun j hj => ?_⟩
  obtain rfl : j = 0 := by omega
  rfl
theorem Own.two (w : World) (B x y : Nat) (hx : x < 256) (hy : y < 256) (hB : B ≤ w.heap.size) : Own (w.alloc (.cells #[u8v x, u8v y] 5)) B (some ⟨w.heap.size, 0, none⟩) 2 2 [x, y] := by
  refine ⟨rfl, Nat.le_refl _, by decide, by simp; omega, by simp, fun a ha => ?_⟩
  cases ha
  refine ⟨_, 0, _, rfl, hB, heap_alloc_new w _, by simp, fun j hj => ?_⟩
  have : j = 0 ∨ j = 1 := by omega
  rcases this with rfl | rfl <;> rfl
theorem Own.none' (w : World) (B : Nat) (hB : B ≤ w.heap.size) : Own (w.alloc (.cells #[] 5)) B (some ⟨w.heap.size, 0, none⟩) 0 0 [] := by
  refine ⟨rfl, Nat.le_refl _, by decide, by simp, by simp, fun a ha => ?_⟩
  cases ha
  exact ⟨_, 0, _, rfl, hB, heap_alloc_new w _, by simp, fun j hj => by omega⟩

end Go.Proofs.Ythanjfnpohhebaa
