/- The state of calls. -/
import Derived.Test.YtjhdlohcjodgjaaSortC
namespace Go.Proofs.Ytjhdlohcjodgjaa
open Go.RowKit
set_option linter.unusedVariables false

/-- call id of a list -/
def look (S : List Cal) (id : Nat) : Option Cal := S.find? fun p => p.id == id
def fmap (S : List Cal) : Nat → Option (Array Value) := fun id => (look S id).map Cal.cells
theorem look_some {S : List Cal} {id : Nat} {p : Cal} (h : look S id = some p) : p ∈ S ∧ p.id = id := by
  refine ⟨List.mem_of_find?_eq_some h, ?_⟩
  have := List.find?_some h
  simpa using this
theorem look_none {S : List Cal} {id : Nat} (h : look S id = none) : ∀ p ∈ S, p.id ≠ id := by
  intro p hp e
  have := List.find?_eq_none.1 h p hp
  simp [e] at this
/-- numbers rise -/
def Inc (S : List Cal) : Prop := S.Pairwise (fun p q => p.id < q.id)
theorem Inc.one {S : List Cal} (h : Inc S) {p q : Cal} (hp : p ∈ S) (hq : q ∈ S) (e : p.id = q.id) : p = q := by
  induction S with
  | nil => cases hp
  | cons x r ih =>
    obtain ⟨h1, h2⟩ := List.pairwise_cons.1 h
    rcases List.mem_cons.1 hp with rfl | hp' <;> rcases List.mem_cons.1 hq with rfl | hq'
    · rfl
    · have := h1 q hq'; omega
    · have := h1 p hp'; omega
    · exact ih h2 hp' hq'
theorem Inc.look {S : List Cal} (h : Inc S) {p : Cal} (hp : p ∈ S) : look S p.id = some p := by
  cases hl : Ytjhdlohcjodgjaa.look S p.id with
  | none => exact absurd rfl (look_none hl p hp)
  | some q =>
    obtain ⟨h1, h2⟩ := look_some hl
    rw [h.one h1 hp h2]
/-- without call id -/
def wo (S : List Cal) (id : Nat) : List Cal := S.filter fun p => p.id != id
theorem wo_mem {S : List Cal} {id : Nat} {p : Cal} : p ∈ wo S id ↔ p ∈ S ∧ p.id ≠ id := by simp [wo]
theorem wo_inc {S : List Cal} (h : Inc S) (id : Nat) : Inc (wo S id) := h.sublist List.filter_sublist
theorem look_wo {S : List Cal} {id k : Nat} : look (wo S id) k = if k = id then none else look S k := by
  unfold look wo
  rw [List.find?_filter]
  by_cases e : k = id
  · subst e
    rw [if_pos rfl, List.find?_eq_none]
    intro x _
    simp
  · rw [if_neg e]
    congr 1
    funext p
    by_cases h2 : p.id = k
    · simp [h2, e]
    · have : (p.id == k) = false := by simp [h2]
      rw [this]; simp
theorem wo_len {S : List Cal} (h : Inc S) {id : Nat} {p : Cal} (hl : look S id = some p) : (wo S id).length + 1 = S.length := by
  induction S with
  | nil => cases hl
  | cons x r ih =>
    obtain ⟨h1, h2⟩ := List.pairwise_cons.1 h
    by_cases e : x.id = id
    · have : wo (x :: r) id = r := by
        unfold wo
        rw [List.filter_cons_of_neg (by simp [e])]
        rw [List.filter_eq_self.2]
        intro y hy
        have := h1 y hy
        simp; omega
      rw [this]; rfl
    · have h3 : look r id = some p := by
        unfold look at hl ⊢
        rw [List.find?_cons_of_neg (by simp [e])] at hl
        exact hl
      have : wo (x :: r) id = x :: wo r id := by
        unfold wo
        rw [List.filter_cons_of_pos (by simp [e])]
      rw [this, List.length_cons, List.length_cons, ih h2 h3]
theorem fmap_wo (S : List Cal) (id : Nat) : upd (fmap S) id none = fmap (wo S id) := by
  funext k
  unfold upd fmap
  rw [look_wo]
  split <;> rfl
theorem look_app {S : List Cal} {p : Cal} {k : Nat} (hn : ∀ x ∈ S, x.id ≠ p.id) : look (S ++ [p]) k = if k = p.id then some p else look S k := by
  unfold look
  rw [List.find?_append]
  by_cases e : k = p.id
  · subst e
    rw [if_pos rfl, List.find?_eq_none.2 (by intro x hx; simp [hn x hx])]
    simp
  · rw [if_neg e]
    have : List.find? (fun x => x.id == k) [p] = none := by simp; omega
    rw [this, Option.or_none]
theorem fmap_app (S : List Cal) (p : Cal) (hn : ∀ x ∈ S, x.id ≠ p.id) : upd (fmap S) p.id (some p.cells) = fmap (S ++ [p]) := by
  funext k
  unfold upd fmap
  rw [look_app hn]
  split <;> rfl

/-- call id is another -/
def upS (S : List Cal) (id : Nat) (x : Cal) : List Cal := S.map fun c => if c.id = id then x else c
theorem upS_len (S : List Cal) (id : Nat) (x : Cal) : (upS S id x).length = S.length := by simp [upS]
theorem look_upS (S : List Cal) (id : Nat) (x : Cal) (hx : x.id = id) (k : Nat) : look (upS S id x) k = if k = id then (look S id).map (fun _ => x) else look S k := by
  unfold look upS
  induction S with
  | nil => simp
  | cons c r ih =>
    rw [List.map_cons]
    by_cases e : c.id = id
    · rw [if_pos e]
      by_cases ek : k = id
      · subst ek
        rw [List.find?_cons_of_pos (by simp [hx]), if_pos rfl, List.find?_cons_of_pos (by simp [e])]; rfl
      · rw [List.find?_cons_of_neg (by simp [hx]; omega), ih, if_neg ek, if_neg ek, List.find?_cons_of_neg (by simp; omega)]
    · rw [if_neg e]
      by_cases ek : k = id
      · subst ek
        rw [List.find?_cons_of_neg (by simp [e]), ih, if_pos rfl, if_pos rfl, List.find?_cons_of_neg (by simp [e])]
      · rw [if_neg ek]
        by_cases e2 : c.id = k
        · rw [List.find?_cons_of_pos (by simp [e2]), List.find?_cons_of_pos (by simp [e2])]
        · rw [List.find?_cons_of_neg (by simp [e2]), ih, if_neg ek, List.find?_cons_of_neg (by simp [e2])]
theorem fmap_upS (S : List Cal) (x p : Cal) (hp : look S x.id = some p) : upd (fmap S) x.id (some x.cells) = fmap (upS S x.id x) := by
  funext k
  unfold upd fmap
  rw [look_upS S x.id x rfl, hp]
  split <;> rfl
theorem upS_ids (S : List Cal) (x : Cal) : (upS S x.id x).map (·.id) = S.map (·.id) := by
  unfold upS
  rw [List.map_map]
  apply List.map_congr_left
  intro c _
  simp only [Function.comp]
  split
  · rename_i h; exact h.symm
  · rfl
theorem inc_ids {S : List Cal} : Inc S ↔ (S.map (·.id)).Pairwise (· < ·) := by rw [List.pairwise_map]; rfl
theorem upS_inc {S : List Cal} (h : Inc S) (x : Cal) : Inc (upS S x.id x) := by rw [inc_ids, upS_ids, ← inc_ids]; exact h
theorem upS_mem {S : List Cal} {id : Nat} {x c : Cal} (h : c ∈ upS S id x) : (c ∈ S ∧ c.id ≠ id) ∨ c = x := by
  obtain ⟨d, hd, rfl⟩ := List.mem_map.1 h
  by_cases e : d.id = id
  · rw [if_pos e]; exact .inr rfl
  · rw [if_neg e]; exact .inl ⟨hd, e⟩

/-- what calls are made with -/
structure Cfg where
  room : Nat
  base : Nat
  most : Nat
  tries : Nat
def Cfg.ok (C : Cfg) : Prop := 1 ≤ C.room ∧ C.room ≤ 256 ∧ 1 ≤ C.base ∧ C.base ≤ C.most ∧ C.most ≤ 1073741824 ∧ 1 ≤ C.tries ∧ C.tries ≤ 16
abbrev rowC (C : Cfg) (made gm : Nat) : Array Value := #[.int .i64 (C.room : Int), .int .i64 (C.base : Int), .int .i64 (C.most : Int), .int .i64 (C.tries : Int), .int .u64 (made : Int), .map (some gm)]
/-- a call's numbers fit -/
def Cal.fits (p : Cal) : Prop := p.since ≤ 1099511627776 ∧ 1 ≤ p.tries ∧ p.tries ≤ 16 ∧ p.due ≤ 1100585369600
structure CalsW (w : World) (B hn gm : Nat) (S : List Cal) (C : Cfg) (made : Nat) : Prop where
  map : MapV w gm S.length (fmap S)
  row : w.heap[hn]? = some (.cells (rowC C made gm) 88 (0, 0))
  base : B ≤ hn
  gbase : B ≤ gm
  ne : hn ≠ gm
  inc : Inc S
  ids : ∀ p ∈ S, 1 ≤ p.id ∧ p.id ≤ made
  fine : ∀ p ∈ S, p.fits
  ok : C.ok
  few : S.length ≤ C.room
  big : made < 4611686018427387904
section
variable {w w' : World} {B hn gm made : Nat} {S : List Cal} {C : Cfg}
theorem CalsW.hlt (h : CalsW w B hn gm S C made) : hn < w.heap.size := (Array.getElem?_eq_some_iff.1 h.row).1
theorem CalsW.at_ (h : CalsW w B hn gm S C made) (i : Nat) : w.cell? ⟨hn, i, none⟩ = (rowC C made gm)[i]? := cell_of_row w hn i _ _ (0, 0) h.row
theorem CalsW.fr (h : CalsW w B hn gm S C made) (i : Nat) : w.frozen? ⟨hn, i, none⟩ = false := frozen_of_row w hn i _ _ h.row
theorem CalsW.keep {U : List Nat} (h : CalsW w B hn gm S C made) (k : Keep U w w') (h1 : hn ∉ U) (h2 : gm ∉ U) : CalsW w' B hn gm S C made :=
  ⟨h.map.keep k h2, (k.block hn h.hlt h1).trans h.row, h.base, h.gbase, h.ne, h.inc, h.ids, h.fine, h.ok, h.few, h.big⟩
theorem CalsW.below (h : CalsW w B hn gm S C made) (b : Below w.heap.size w w') : CalsW w' B hn gm S C made := h.keep (Keep.of_below b []) (by simp) (by simp)
theorem CalsW.rebase {B' : Nat} (h : CalsW w B hn gm S C made) (hB : B' ≤ B) : CalsW w B' hn gm S C made :=
  ⟨h.map, h.row, Nat.le_trans hB h.base, Nat.le_trans hB h.gbase, h.ne, h.inc, h.ids, h.fine, h.ok, h.few, h.big⟩
theorem CalsW.lts (h : CalsW w B hn gm S C made) : hn < w.heap.size ∧ gm < w.heap.size := ⟨h.hlt, h.map.lt⟩
theorem CalsW.put (h : CalsW w B hn gm S C made) {x p : Cal} (hp : look S x.id = some p) (hx : x.fits) : ∃ w', (Instr.mapUpdate 86 (.map (some gm)) (.int .u64 (x.id : Int)) (agv x)).run Try.prog w = .ok () w' ∧ CalsW w' B hn gm (upS S x.id x) C made ∧ Keep [gm] w w' := by
  have hi := h.ids p (look_some hp).1
  rw [(look_some hp).2] at hi
  have hk := h.big
  have hfew := h.few
  have hrm := h.ok.2.1
  obtain ⟨w', hr, hm, k⟩ := h.map.put x.id x.cells (by omega) (by omega)
  have e : (fmap S x.id).isSome = true := by simp [fmap, hp]
  rw [e, fmap_upS S x p hp] at hm
  refine ⟨w', hr, ⟨by rw [upS_len]; simpa using hm, (k.block hn h.hlt (by simpa using h.ne)).trans h.row, h.base, h.gbase, h.ne, upS_inc h.inc x, fun q hq => ?_, fun q hq => ?_, h.ok, by rw [upS_len]; exact h.few, h.big⟩, k⟩
  · rcases upS_mem hq with ⟨h1, _⟩ | rfl
    · exact h.ids q h1
    · exact hi
  · rcases upS_mem hq with ⟨h1, _⟩ | rfl
    · exact h.fine q h1
    · exact hx
theorem CalsW.del (h : CalsW w B hn gm S C made) {id : Nat} {p : Cal} (hp : look S id = some p) (ty : TypeId) :
    ∃ w', (Builtin.delete_ #[86, 29] ty #[.map (some gm), .int .u64 (id : Int)]).run Try.prog w = .ok (.tuple #[]) w' ∧ CalsW w' B hn gm (wo S id) C made ∧ Keep [gm] w w' := by
  have hi := h.ids p (look_some hp).1
  rw [(look_some hp).2] at hi
  have hk := h.big
  have hfew := h.few
  obtain ⟨w', h1, h2, k⟩ := h.map.del id (by omega) ty
  rw [show (fmap S id).isSome = true by simp [fmap, hp], fmap_wo] at h2
  have hlen := wo_len h.inc hp
  refine ⟨w', h1, ⟨by rw [show (wo S id).length = S.length - 1 by omega]; exact h2, (k.block hn h.hlt (by simpa using h.ne)).trans h.row, h.base, h.gbase, h.ne, wo_inc h.inc id, fun q hq => h.ids q (wo_mem.1 hq).1, fun q hq => h.fine q (wo_mem.1 hq).1, h.ok, by omega, h.big⟩, k⟩
theorem CalsW.add (h : CalsW w B hn gm S C made) {x : Cal} (hx : x.fits) (hid : x.id = made) (hm1 : 1 ≤ made) (hnew : ∀ p ∈ S, p.id < made) (hf : S.length < C.room) :
    ∃ w', (Instr.mapUpdate 86 (.map (some gm)) (.int .u64 (x.id : Int)) (agv x)).run Try.prog w = .ok () w' ∧ CalsW w' B hn gm (S ++ [x]) C made ∧ Keep [gm] w w' := by
  have hk := h.big
  have hrm := h.ok.2.1
  have hne : ∀ p ∈ S, p.id ≠ x.id := fun p hp => by have := hnew p hp; omega
  obtain ⟨w', hr, hm, k⟩ := h.map.put x.id x.cells (by omega) (by omega)
  have e : fmap S x.id = none := by
    cases hq : look S x.id with
    | none => simp [fmap, hq]
    | some q => exact absurd (look_some hq).2 (hne q (look_some hq).1)
  rw [e, fmap_app S x hne] at hm
  refine ⟨w', hr, ⟨by simpa using hm, (k.block hn h.hlt (by simpa using h.ne)).trans h.row, h.base, h.gbase, h.ne, ?_, fun q hq => ?_, fun q hq => ?_, h.ok, by simp; omega, h.big⟩, k⟩
  · unfold Inc
    rw [List.pairwise_append]
    exact ⟨h.inc, by simp, fun a ha b hb => by rw [List.mem_singleton] at hb; subst hb; have := hnew a ha; omega⟩
  · rcases List.mem_append.1 hq with h1 | h1
    · exact h.ids q h1
    · rw [List.mem_singleton] at h1; subst h1; omega
  · rcases List.mem_append.1 hq with h1 | h1
    · exact h.fine q h1
    · rw [List.mem_singleton] at h1; subst h1; exact hx
theorem CalsW.setMade (h : CalsW w B hn gm S C made) (m : Nat) (hm : made ≤ m) (hm2 : m < 4611686018427387904) : CalsW (w.setCell ⟨hn, 4, none⟩ (.int .u64 (m : Int))) B hn gm S C m := by
  have k := Keep.setCell w ⟨hn, 4, none⟩ (.int .u64 (m : Int))
  exact ⟨h.map.keep k (by simpa using fun e => h.ne e.symm), heap_setCell_same w hn 4 _ _ _ h.row, h.base, h.gbase, h.ne, h.inc, fun p hp => ⟨(h.ids p hp).1, Nat.le_trans (h.ids p hp).2 hm⟩, h.fine, h.ok, h.few, hm2⟩
end
end Go.Proofs.Ytjhdlohcjodgjaa
