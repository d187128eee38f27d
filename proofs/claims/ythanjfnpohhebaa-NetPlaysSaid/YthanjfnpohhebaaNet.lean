/- A net's state. -/
import Derived.Test.YthanjfnpohhebaaPk
namespace Go.Proofs.Ythanjfnpohhebaa
open Go.RowKit Go.Sort
set_option linter.unusedVariables false

/-- packet id of a list -/
def look (S : List Pkt) (id : Nat) : Option Pkt := S.find? fun p => p.id == id
def fmap (S : List Pkt) : Nat → Option (Array Value) := fun id => (look S id).map Pkt.cells
/-- the blocks of the packets' bytes -/
def bs (S : List Pkt) : List Nat := S.flatMap fun p => blk p.ao
theorem look_some {S : List Pkt} {id : Nat} {p : Pkt} (h : look S id = some p) : p ∈ S ∧ p.id = id := by
  refine ⟨List.mem_of_find?_eq_some h, ?_⟩
  have := List.find?_some h
  simpa using this
theorem look_none {S : List Pkt} {id : Nat} (h : look S id = none) : ∀ p ∈ S, p.id ≠ id := by
  intro p hp e
  have := List.find?_eq_none.1 h p hp
  simp [e] at this
theorem bs_mem {S : List Pkt} {g : Nat} : g ∈ bs S ↔ ∃ p ∈ S, g ∈ blk p.ao := by simp [bs, List.mem_flatMap]
/-- numbers rise -/
def Inc (S : List Pkt) : Prop := S.Pairwise (fun p q => p.id < q.id)
theorem Inc.one {S : List Pkt} (h : Inc S) {p q : Pkt} (hp : p ∈ S) (hq : q ∈ S) (e : p.id = q.id) : p = q := by
  induction S with
  | nil => cases hp
  | cons x r ih =>
    obtain ⟨h1, h2⟩ := List.pairwise_cons.1 h
    rcases List.mem_cons.1 hp with rfl | hp' <;> rcases List.mem_cons.1 hq with rfl | hq'
    · rfl
    · have := h1 q hq'; omega
    · have := h1 p hp'; omega
    · exact ih h2 hp' hq'
theorem Inc.look {S : List Pkt} (h : Inc S) {p : Pkt} (hp : p ∈ S) : look S p.id = some p := by
  cases hl : Ythanjfnpohhebaa.look S p.id with
  | none => exact absurd rfl (look_none hl p hp)
  | some q =>
    obtain ⟨h1, h2⟩ := look_some hl
    rw [h.one h1 hp h2]
/-- without packet id -/
def wo (S : List Pkt) (id : Nat) : List Pkt := S.filter fun p => p.id != id
theorem wo_mem {S : List Pkt} {id : Nat} {p : Pkt} : p ∈ wo S id ↔ p ∈ S ∧ p.id ≠ id := by simp [wo]
theorem wo_inc {S : List Pkt} (h : Inc S) (id : Nat) : Inc (wo S id) := h.sublist List.filter_sublist
theorem look_wo {S : List Pkt} {id k : Nat} : look (wo S id) k = if k = id then none else look S k := by
  unfold look wo
  rw [List.find?_filter]
  by_cases e : k = id
  · subst e
    rw [if_pos rfl, List.find?_eq_none]
    intro x _
    simp
  · rw [if_neg e]
    congr 1
    funext p
    by_cases h2 : p.id = k
    · simp [h2, e]
    · have : (p.id == k) = false := by simp [h2]
      rw [this]; simp
theorem wo_len {S : List Pkt} (h : Inc S) {id : Nat} {p : Pkt} (hl : look S id = some p) : (wo S id).length + 1 = S.length := by
  induction S with
  | nil => cases hl
  | cons x r ih =>
    obtain ⟨h1, h2⟩ := List.pairwise_cons.1 h
    by_cases e : x.id = id
    · have : wo (x :: r) id = r := by
        unfold wo
        rw [List.filter_cons_of_neg (by simp [e])]
        rw [List.filter_eq_self.2]
        intro y hy
        have := h1 y hy
        simp; omega
      rw [this]; rfl
    · have h3 : look r id = some p := by
        unfold look at hl ⊢
        rw [List.find?_cons_of_neg (by simp [e])] at hl
        exact hl
      have : wo (x :: r) id = x :: wo r id := by
        unfold wo
        rw [List.filter_cons_of_pos (by simp [e])]
      rw [this, List.length_cons, List.length_cons, ih h2 h3]
theorem fmap_wo (S : List Pkt) (id : Nat) : upd (fmap S) id none = fmap (wo S id) := by
  funext k
  unfold upd fmap
  rw [look_wo]
  split <;> rfl
theorem look_app {S : List Pkt} {p : Pkt} {k : Nat} (hn : ∀ x ∈ S, x.id ≠ p.id) : look (S ++ [p]) k = if k = p.id then some p else look S k := by
  unfold look
  rw [List.find?_append]
  by_cases e : k = p.id
  · subst e
    rw [if_pos rfl, List.find?_eq_none.2 (by intro x hx; simp [hn x hx])]
    simp
  · rw [if_neg e]
    have : List.find? (fun x => x.id == k) [p] = none := by simp; omega
    rw [this, Option.or_none]
theorem fmap_app (S : List Pkt) (p : Pkt) (hn : ∀ x ∈ S, x.id ≠ p.id) : upd (fmap S) p.id (some p.cells) = fmap (S ++ [p]) := by
  funext k
  unfold upd fmap
  rw [look_app hn]
  split <;> rfl

/-- what has been done -/
structure Tr where
  sent : Nat
  twice : Nat
  spoilt : Nat
  taken : Nat
  lost : Nat
def Tr.small (T : Tr) (k : Nat) : Prop := T.sent ≤ k ∧ T.twice ≤ k ∧ T.spoilt ≤ k ∧ T.taken ≤ k ∧ T.lost ≤ k
abbrev rowN (room made gm : Nat) (T : Tr) : Array Value := #[.int .i64 (room : Int), .int .u64 (made : Int), .map (some gm), .int .i64 (T.sent : Int), .int .i64 (T.twice : Int), .int .i64 (T.spoilt : Int), .int .i64 (T.taken : Int), .int .i64 (T.lost : Int)]

/-- bytes of packets, apart -/
structure PkW (w : World) (B : Nat) (S : List Pkt) : Prop where
  own : ∀ p ∈ S, Own w B p.ao p.data.length p.cap p.data
  apart : S.Pairwise (fun p q => ∀ g ∈ blk p.ao, g ∉ blk q.ao)
theorem PkW.keep {w w' : World} {B : Nat} {S : List Pkt} {T : List Nat} (h : PkW w B S) (k : Keep T w w') (hn : ∀ g ∈ bs S, g ∉ T) : PkW w' B S :=
  ⟨fun p hp => (h.own p hp).keep k fun g hg => hn g (bs_mem.2 ⟨p, hp, hg⟩), h.apart⟩
theorem PkW.base {w : World} {B B' : Nat} {S : List Pkt} (h : PkW w B S) (hb : B' ≤ B) : PkW w B' S := ⟨fun p hp => (h.own p hp).base hb, h.apart⟩
theorem PkW.lt {w : World} {B : Nat} {S : List Pkt} (h : PkW w B S) : ∀ g ∈ bs S, B ≤ g ∧ g < w.heap.size := by
  intro g hg
  obtain ⟨p, hp, hg⟩ := bs_mem.1 hg
  exact (h.own p hp).lt_size g hg
theorem PkW.sub {w : World} {B : Nat} {S S' : List Pkt} (h : PkW w B S) (hs : S'.Sublist S) : PkW w B S' := ⟨fun p hp => h.own p (hs.subset hp), h.apart.sublist hs⟩
theorem PkW.app {w : World} {B : Nat} {S : List Pkt} {p : Pkt} (h : PkW w B S) (ho : Own w B p.ao p.data.length p.cap p.data) (hn : ∀ g ∈ blk p.ao, g ∉ bs S) : PkW w B (S ++ [p]) := by
  refine ⟨fun x hx => ?_, ?_⟩
  · rcases List.mem_append.1 hx with hx | hx
    · exact h.own x hx
    · rw [List.mem_singleton] at hx; exact hx ▸ ho
  · rw [List.pairwise_append]
    refine ⟨h.apart, by simp, fun x hx y hy g hg hg2 => ?_⟩
    rw [List.mem_singleton] at hy
    subst hy
    exact hn g hg2 (bs_mem.2 ⟨x, hx, hg⟩)

structure NetW (w : World) (B hn gm : Nat) (S : List Pkt) (room made : Nat) (T : Tr) : Prop where
  map : MapV w gm S.length (fmap S)
  row : w.heap[hn]? = some (.cells (rowN room made gm T) 62 (0, 0))
  base : B ≤ hn
  gbase : B ≤ gm
  ne : hn ≠ gm
  pk : PkW w B S
  nh : hn ∉ bs S
  ng : gm ∉ bs S
  inc : Inc S
  ids : ∀ p ∈ S, 1 ≤ p.id ∧ p.id ≤ made
  lens : ∀ p ∈ S, p.data.length ≤ 65546
  rm : 1 ≤ room ∧ room ≤ 4096
  few : S.length ≤ room
/-- a net in block hn, its blocks Bs -/
def Net (w : World) (B hn : Nat) (Bs : List Nat) (S : List Pkt) (room made : Nat) (T : Tr) : Prop := ∃ gm, Bs = hn :: gm :: bs S ∧ NetW w B hn gm S room made T
/-- what a call on the net may do -/
structure Turned (Bs Bs' : List Nat) (w w' : World) : Prop where
  keep : Keep Bs w w'
  new : ∀ q ∈ Bs', q ∈ Bs ∨ w.heap.size ≤ q
section
variable {w w' : World} {B hn gm : Nat} {S : List Pkt} {room made : Nat} {T : Tr} {Bs : List Nat}
theorem NetW.hlt (h : NetW w B hn gm S room made T) : hn < w.heap.size := (Array.getElem?_eq_some_iff.1 h.row).1
theorem NetW.at_ (h : NetW w B hn gm S room made T) (i : Nat) : w.cell? ⟨hn, i, none⟩ = (rowN room made gm T)[i]? := cell_of_row w hn i _ _ (0, 0) h.row
theorem NetW.fr (h : NetW w B hn gm S room made T) (i : Nat) : w.frozen? ⟨hn, i, none⟩ = false := frozen_of_row w hn i _ _ h.row
theorem NetW.blocks (h : NetW w B hn gm S room made T) : ∀ q ∈ hn :: gm :: bs S, B ≤ q ∧ q < w.heap.size := by
  intro q hq
  simp only [List.mem_cons] at hq
  rcases hq with rfl | rfl | hq
  · exact ⟨h.base, h.hlt⟩
  · exact ⟨h.gbase, h.map.lt⟩
  · exact h.pk.lt q hq
theorem NetW.keep {U : List Nat} (h : NetW w B hn gm S room made T) (k : Keep U w w') (hU : ∀ q ∈ hn :: gm :: bs S, q ∉ U) : NetW w' B hn gm S room made T :=
  ⟨h.map.keep k (hU gm (by simp)), (k.block hn h.hlt (hU hn (by simp))).trans h.row, h.base, h.gbase, h.ne, h.pk.keep k (fun g hg => hU g (by simp [hg])), h.nh, h.ng, h.inc, h.ids, h.lens, h.rm, h.few⟩
theorem Net.blocks (h : Net w B hn Bs S room made T) : ∀ q ∈ Bs, B ≤ q ∧ q < w.heap.size := by
  obtain ⟨gm, rfl, h⟩ := h
  exact h.blocks
theorem Net.keep {U : List Nat} (h : Net w B hn Bs S room made T) (k : Keep U w w') (hU : ∀ q ∈ Bs, q ∉ U) : Net w' B hn Bs S room made T := by
  obtain ⟨gm, rfl, h⟩ := h
  exact ⟨gm, rfl, h.keep k hU⟩
theorem Net.below (h : Net w B hn Bs S room made T) (b : Below w.heap.size w w') : Net w' B hn Bs S room made T := h.keep (Keep.of_below b []) (by simp)
theorem Net.drew (h : Net w B hn Bs S room made T) : Net w.drew B hn Bs S room made T := h.below (Below.refl _ _).drew
theorem Net.base {B' : Nat} (h : Net w B hn Bs S room made T) (hB : B' ≤ B) : Net w B' hn Bs S room made T := by
  obtain ⟨gm, rfl, h⟩ := h
  exact ⟨gm, rfl, ⟨h.map, h.row, Nat.le_trans hB h.base, Nat.le_trans hB h.gbase, h.ne, h.pk.base hB, h.nh, h.ng, h.inc, h.ids, h.lens, h.rm, h.few⟩⟩
theorem Turned.refl (Bs : List Nat) (w : World) : Turned Bs Bs w w := ⟨Keep.refl _ _, fun q h => .inl h⟩
theorem Turned.trans {Bs1 Bs2 Bs3 : List Nat} {a b c : World} (h : Turned Bs1 Bs2 a b) (k : Turned Bs2 Bs3 b c) : Turned Bs1 Bs3 a c := by
  have hs := h.keep.size
  refine ⟨?_, fun q hq => ?_⟩
  · have t1 : Keep (Bs1 ++ Bs2) a b := h.keep.mono (fun q hq => .inl (by simp [hq]))
    have t2 : Keep (Bs1 ++ Bs2) b c := k.keep.mono (fun q hq => .inl (by simp [hq]))
    refine (t1.trans t2).mono fun q hq => ?_
    rcases List.mem_append.1 hq with h1 | h1
    · exact .inl h1
    · exact h.new q h1
  · rcases k.new q hq with h1 | h1
    · exact h.new q h1
    · right; omega
theorem Turned.of_below (Bs : List Nat) {w w' : World} (b : Below w.heap.size w w') : Turned Bs Bs w w' := ⟨Keep.of_below b _, fun q h => .inl h⟩
/-- blocks that are apart stay so -/
theorem Turned.apart {Bs Bs' Cs : List Nat} (h : Turned Bs Bs' w w') (ha : ∀ q ∈ Bs, q ∉ Cs) (hc : ∀ q ∈ Cs, q < w.heap.size) : ∀ q ∈ Bs', q ∉ Cs := by
  intro q hq hm
  rcases h.new q hq with h1 | h1
  · exact ha q h1 hm
  · have := hc q hm; omega
theorem Turned.below {Bs Bs' : List Nat} {B : Nat} (h : Turned Bs Bs' w w') (hB : B ≤ w.heap.size) (hs : ∀ q ∈ Bs, B ≤ q) : Below B w w' := h.keep.below hB hs
/-- a number of the head is turned -/
theorem NetW.setMade (h : NetW w B hn gm S room made T) (m : Nat) (hm : made ≤ m) : NetW (w.setCell ⟨hn, 1, none⟩ (.int .u64 (m : Int))) B hn gm S room m T := by
  have k := Keep.setCell w ⟨hn, 1, none⟩ (.int .u64 (m : Int))
  exact ⟨h.map.keep k (by simpa using fun e => h.ne e.symm), heap_setCell_same w hn 1 _ _ _ h.row, h.base, h.gbase, h.ne, h.pk.keep k (fun g hg e => h.nh (by simp at e; exact e ▸ hg)), h.nh, h.ng, h.inc, fun p hp => ⟨(h.ids p hp).1, Nat.le_trans (h.ids p hp).2 hm⟩, h.lens, h.rm, h.few⟩
theorem NetW.setTr (h : NetW w B hn gm S room made T) (i : Nat) (v : Value) (T' : Tr) (he : (rowN room made gm T).setIfInBounds i v = rowN room made gm T') : NetW (w.setCell ⟨hn, i, none⟩ v) B hn gm S room made T' := by
  have k := Keep.setCell w ⟨hn, i, none⟩ v
  exact ⟨h.map.keep k (by simpa using fun e => h.ne e.symm), by rw [heap_setCell_same w hn i _ _ v h.row, he], h.base, h.gbase, h.ne, h.pk.keep k (fun g hg e => h.nh (by simp at e; exact e ▸ hg)), h.nh, h.ng, h.inc, h.ids, h.lens, h.rm, h.few⟩
end


abbrev Ret (n : Nat) (xs : Array Value) (r : Ending) : Prop := ∀ w, Calls Try.prog n xs w fun e w' => e = r ∧ Below w.heap.size w w'
theorem Ret.re {n : Nat} {xs : Array Value} {v : Value} (h : Ret n xs (.returned v)) (w : World) (d : Nat) (os : Array Obj) :
    Calls Try.prog n xs (grow (redrawn w d) os) fun e w'' => e = .returned v ∧ ∃ p : Regrown, w'' = grow (redrawn w p.d) p.os := Calls.regrown_of (h _)

/-- bytes have been made -/
def MadeAt (w : World) (l : List Nat) (e : Ending) (w' : World) : Prop :=
  ∃ ao cap, e = .returned (.slice ao l.length cap) ∧ Own w' w.heap.size ao l.length cap l ∧ Below w.heap.size w w'
set_option maxRecDepth 100000 in
set_option maxHeartbeats 800000 in
theorem clone_any (w : World) {ao : Option Addr} {n cap : Nat} {l : List Nat} (hr : Rd w ao l) (hl : l.length = n) (hb : n ≤ 140737488355328) :
    Calls Try.prog 38 #[.slice ao n cap] w (MadeAt w l) := by
  cases ao with
  | none =>
    have h0 : l = [] := by
      cases l with
      | nil => rfl
      | cons x r => obtain ⟨g, o, e, _⟩ := hr.at_ 0 (by simp); cases e
    subst h0
    obtain rfl : n = 0 := hl.symm
    have hq := Lib.run_eql_slice_nil (P := Try.prog) w 39 5 none 0 cap 0 0 Try.underlying39
    go_enter Try.func38, Try.ntmps38
    go_wp2_with fail
    go_ret
    exact ⟨none, 0, rfl, Own.nil _ _, Below.refl _ _⟩
  | some a =>
    have HR := Lib.hid hr
    have hq := Lib.run_eql_slice_nil (P := Try.prog) w 39 5 (some a) n cap 0 0 Try.underlying39
    go_enter Try.func38, Try.ntmps38
    go_wp2_with (at_builtin; refine wpList_app rfl (.tmp 5) (.tmp 6) rfl rfl (Own.none' w w.heap.size (Nat.le_refl _)) rfl (HR.out.below (below_alloc (Below.refl _ _) _)) hl (by simp) (by omega) ?_; intro ao2 cap2 w2 own2 kp2 nb2)
    go_ret
    subst hl
    refine ⟨ao2, cap2, rfl, by simpa using own2, ?_⟩
    have b1 : Below w.heap.size w (w.alloc (.cells #[] 5)) := below_alloc (Below.refl _ _) _
    exact b1.trans (kp2.below b1.size (by simp [blk]))

set_option maxHeartbeats 400000 in
theorem new_no (r : Int) (h : r < 1 ∨ 4096 < r) (w : World) : Calls Try.prog 7 #[.int .i64 r] w fun e w' => e = .returned (.tuple #[.pointer none, .int .i64 1]) ∧ w = w' := by
  rcases h with h | h
  all_goals
    go_enter Try.func7, Try.ntmps7
    go_wp2_with fail
    go_ret2
    exact ⟨rfl, rfl⟩
set_option maxHeartbeats 800000 in
theorem new_yes (r : Nat) (h1 : 1 ≤ r) (h2 : r ≤ 4096) (w : World) :
    Calls Try.prog 7 #[.int .i64 (r : Int)] w fun e w' => ∃ hn Bs, e = .returned (.tuple #[.pointer (some ⟨hn, 0, none⟩), .int .i64 0]) ∧ Net w' w.heap.size hn Bs [] r 0 ⟨0, 0, 0, 0, 0⟩ ∧ Below w.heap.size w w' := by
  have hmm := @run_makeMap Try.prog
  go_enter Try.func7, Try.ntmps7
  go_wp2_with fail
  go_ret2
  refine ⟨w.heap.size + 1, _, rfl, ⟨w.heap.size, rfl, ?_⟩, below_alloc (below_alloc (Below.refl _ _) _) _⟩
  have hm := MapV.made w
  have k := Keep.alloc (Keep.refl [] (w.alloc (.map #[] 0))) (.cells (rowN r 0 w.heap.size ⟨0, 0, 0, 0, 0⟩) 62)
  have hr := heap_alloc_new (w.alloc (.map #[] 0)) (.cells (rowN r 0 w.heap.size ⟨0, 0, 0, 0, 0⟩) 62)
  refine ⟨hm.keep k (by simp), ?_, by omega, by omega, by omega, ⟨by simp, by simp⟩, by simp [bs], by simp [bs], by simp [Inc], by simp, by simp, ⟨h1, h2⟩, by simp⟩
  rw [show (w.alloc (.map #[] 0)).heap.size = w.heap.size + 1 by simp] at hr
  exact hr

section
variable {w w' : World} {B hn gm : Nat} {S : List Pkt} {room made : Nat} {T : Tr} {Bs : List Nat}
set_option maxHeartbeats 400000 in
theorem count_any (w : World) (h : Net w B hn Bs S room made T) : Calls Try.prog 9 #[.pointer (some ⟨hn, 0, none⟩)] w fun e w' => e = .returned (.int .i64 (S.length : Int)) ∧ w = w' := by
  obtain ⟨gm, rfl, h⟩ := h
  have c2 := h.at_ 2
  simp only [rowN, List.getElem?_toArray, List.getElem?_cons_succ, List.getElem?_cons_zero] at c2
  have hl := fun ty => h.map.len (w := w) ty
  clear h
  go_enter Try.func9, Try.ntmps9
  go_wp2_with fail
  go_ret
  exact ⟨rfl, rfl⟩
set_option maxHeartbeats 400000 in
theorem count_nil (w : World) : Calls Try.prog 9 #[.pointer none] w fun e w' => e = .returned (.int .i64 0) ∧ w = w' := by
  go_enter Try.func9, Try.ntmps9
  go_wp2_with fail
  go_ret
  exact ⟨rfl, rfl⟩
set_option maxHeartbeats 800000 in
theorem full_any (w : World) (h : Net w B hn Bs S room made T) : Calls Try.prog 33 #[.pointer (some ⟨hn, 0, none⟩)] w fun e w' => e = .returned (.bool (decide (room ≤ S.length))) ∧ Below w.heap.size w w' := by
  obtain ⟨gm, rfl, h⟩ := h
  have c2 := h.at_ 2
  have c0 := h.at_ 0
  simp only [rowN, List.getElem?_toArray, List.getElem?_cons_succ, List.getElem?_cons_zero] at c2 c0
  have hl := fun ty => h.map.len (w := w) ty
  have hl2 := fun ty => h.map.len (w := w.drew) ty
  clear h
  go_enter Try.func33, Try.ntmps33
  go_wp2_with fail
  go_region
  go_wp2_with fail
  go_ret
  exact ⟨ret_bool (by first | rfl | (rw [Bool.eq_iff_iff]; simp)), (Below.refl _ _).drew⟩

theorem results_cell_tmp {P : Program} {fn : Func} {t s : Tmp} {u : TypeId} {tmps : Array Value} {w : World} {ad : Addr} {v x : Value} (h : fn.results = #[.cell t u, .tmp s]) (ht : tmps.getD t undef = .pointer (some ad))
    (hl : (loadVar u ad).run P w = .ok v w) (hx : tmps.getD s undef = x) : (results fn tmps).run P w = .ok (.tuple #[v, x]) w := by
  have ht' : tmps[t]?.getD undef = .pointer (some ad) := by simpa using ht
  have hx' : tmps[s]?.getD undef = x := by simpa using hx
  simp [results, h, ht', hl, asAddr, hx']
/-- what find answers -/
def findE (S : List Pkt) (id : Nat) : Value := match look S id with | some p => .tuple #[agv p, .int .i64 0] | none => .tuple #[zpk, .int .i64 72]
set_option maxHeartbeats 800000 in
theorem find_nil (id : Nat) (w : World) : Calls Try.prog 35 #[.pointer none, .int .u64 (id : Int)] w fun e w' => e = .returned (.tuple #[zpk, .int .i64 1]) ∧ Below w.heap.size w w' := by
  go_enter Try.func35, Try.ntmps35
  go_wp2_with fail
  refine bodyPost_ret (v := .tuple #[zpk, .int .i64 1]) (results_cell_tmp Try.results35 rfl ?_ rfl) rfl ⟨rfl, ?_⟩
  · go_simp
  · exact below_alloc (Below.refl _ _) _
set_option maxRecDepth 100000 in
set_option maxHeartbeats 800000 in
theorem find_any (id : Nat) (hid : id < 18446744073709551616) (w : World) (h : Net w B hn Bs S room made T) : Calls Try.prog 35 #[.pointer (some ⟨hn, 0, none⟩), .int .u64 (id : Int)] w fun e w' => e = .returned (findE S id) ∧ Below w.heap.size w w' := by
  obtain ⟨gm, rfl, h⟩ := h
  have c2 := h.at_ 2
  simp only [rowN, List.getElem?_toArray, List.getElem?_cons_succ, List.getElem?_cons_zero] at c2
  have hl := (h.map.keep (Keep.of_below (below_alloc (Below.refl w.heap.size w) (.cells #[.int .u64 0, .int .i64 0, .int .i64 0, .slice none 0 0] 52)) []) (by simp)).look id hid
  have hlt := h.hlt
  clear h
  unfold findE
  cases hk : look S id with
  | none =>
    rw [show fmap S id = none by simp [fmap, hk]] at hl
    simp only [Option.map_none, Option.getD_none, Option.isSome_none] at hl
    go_enter Try.func35, Try.ntmps35
    go_wp2_with fail
    refine bodyPost_ret (v := .tuple #[zpk, .int .i64 72]) (results_cell_tmp Try.results35 rfl ?_ rfl) rfl ⟨rfl, ?_⟩
    · go_simp
    · exact below_alloc (below_alloc (Below.refl _ _) _) _
  | some p =>
    rw [show fmap S id = some p.cells by simp [fmap, hk]] at hl
    simp only [Option.map_some, Option.getD_some, Option.isSome_some] at hl
    go_enter Try.func35, Try.ntmps35
    go_wp2_with fail
    refine bodyPost_ret (v := .tuple #[agv p, .int .i64 0]) (results_cell_tmp Try.results35 rfl ?_ rfl) rfl ⟨rfl, ?_⟩
    · go_simp
    · exact below_alloc (below_alloc (Below.refl _ _) _) _
end
end Go.Proofs.Ythanjfnpohhebaa
