/- InboxEnds: what lies in memory. -/
import Derived.Test.YtjhdlohcjodgjaaEnd2
import Derived.Test.YtjhdlohcjodgjaaTwin5
namespace Go.Proofs.Ytjhdlohcjodgjaa
open Go.RowKit
set_option linter.unusedVariables false

abbrev iv (l : List Int) : List Value := l.map (Value.int .i64)
theorem i64_info : (Try.prog.info? 2).map (fun i => (i.zero, i.size, i.bytes)) = some (some (.int .i64 0), 1, 8) := by kernel_rfl
theorem int_info : (Try.prog.info? 3).map (fun i => (i.zero, i.size, i.bytes)) = some (some (.int .i64 0), 1, 8) := by kernel_rfl
section
variable {w : World} {B n cap : Nat} {e : TypeId} {ao : Option Addr} {xs : List Value}
theorem owns_cell1 (ho : w.ownsRow B e 1 (.slice ao n cap) n xs) (j : Nat) (hj : j < n) : ∃ g v, ao = some ⟨g, 0, none⟩ ∧ g < w.heap.size ∧ B ≤ g ∧ xs[j]? = some v ∧ w.cell? ⟨g, j, none⟩ = some v ∧ w.frozen? ⟨g, j, none⟩ = false := by
  have hl := ho.1
  rcases ho.2 with ⟨h2, h3⟩ | ⟨g, cap', cur, h2, hb, hg, h3, h4, h5, h6⟩
  · omega
  · cases h2
    have hj2 : j < xs.length := by omega
    refine ⟨g, xs[j], rfl, (Array.getElem?_eq_some_iff.1 hg).1, hb, List.getElem?_eq_getElem hj2, ?_, frozen_of_row w g j cur _ hg⟩
    rw [cell_of_row w g j cur _ (0, 0) hg]
    have := congrArg (·[j]?) h6
    simp only [List.getElem?_take, Nat.mul_one] at this
    rw [if_pos (by omega), Array.getElem?_toList] at this
    rw [this, List.getElem?_eq_getElem hj2]
theorem owns_put1 {g : Nat} (ho : w.ownsRow B e 1 (.slice (some ⟨g, 0, none⟩) n cap) n xs) (j : Nat) (hj : j < n) (v : Value) : (w.setCell ⟨g, j, none⟩ v).ownsRow B e 1 (.slice (some ⟨g, 0, none⟩) n cap) n (xs.set j v) := by
  refine ⟨by rw [List.length_set]; exact ho.1, ?_⟩
  rcases ho.2 with ⟨h2, h3⟩ | ⟨g', cap', cur, h2, hb, hg, h3, h4, h5, h6⟩
  · omega
  · cases h2
    refine .inr ⟨g, cap, cur.setIfInBounds j v, rfl, hb, heap_setCell_same w g j cur _ _ hg, h3, h4, by simpa using h5, ?_⟩
    rw [← h6]
    apply List.ext_getElem?
    intro k
    rw [List.getElem?_take]
    by_cases hk : k < n * 1
    · rw [if_pos hk, Array.getElem?_toList]
      by_cases ek : k = j
      · subst ek
        rw [Array.getElem?_setIfInBounds_self_of_lt (by omega), List.getElem?_set_self (by rw [List.length_take, Array.length_toList]; omega)]
      · rw [Array.getElem?_setIfInBounds_ne (by omega), List.getElem?_set_ne (by omega), List.getElem?_take, if_pos hk, Array.getElem?_toList]
    · rw [if_neg hk, List.getElem?_eq_none (by rw [List.length_set, List.length_take]; omega)]
end
theorem ids_open {T : List Cal} (h : IdsO 0 T) (to : Int) (now : Nat) : IdsO 0 (T ++ [opened C4 (T.length + 1) to now]) := by
  intro i x hx
  by_cases hi : i < T.length
  · rw [List.getElem?_append_left hi] at hx; exact h i x hx
  · have hlt := (List.getElem?_eq_some_iff.1 hx).1
    simp at hlt
    obtain rfl : i = T.length := by omega
    simp at hx
    subst hx
    show T.length + 1 = _
    omega
theorem ids_close {T : List Cal} (h : IdsO 0 T) (id : Nat) : IdsO 0 (closeT T id) := by
  unfold closeT
  split
  · rename_i x hx
    split
    · have hx' : T[id - 1]? = some x := by
        unfold closeX at hx
        split at hx
        · exact hx
        · cases hx
      exact h.set (id - 1) hx' rfl
    · exact h
  · exact h
theorem ids_due {T T' L1 L2 : List Cal} {now : Nat} (hS : DueS T T' L1 L2 now) (h : IdsO 0 T) : IdsO 0 T' := by
  intro i x' hx'
  have hlt := (List.getElem?_eq_some_iff.1 hx').1
  rw [hS.len] at hlt
  have hTi := List.getElem?_eq_getElem hlt
  have hid := h i _ hTi
  by_cases h1 : ∃ y ∈ L1, y.id = i + 1
  · obtain ⟨y, hy, he⟩ := h1
    obtain ⟨i', x, hi', _, _, _, _, _, _, hT'⟩ := hS.ag y hy
    obtain rfl : i' = i := by omega
    rw [hT'] at hx'
    injection hx' with hx'
    subst hx'
    omega
  · by_cases h2 : ∃ z ∈ L2, z.id = i + 1
    · obtain ⟨z, hz, he⟩ := h2
      obtain ⟨i', hi', _, _, _, _, hT'⟩ := hS.ov z hz
      obtain rfl : i' = i := by omega
      rw [hT'] at hx'
      injection hx' with hx'
      subst hx'
      show z.id = _
      omega
    · rw [hS.rest i _ hTi (fun y hy e => h1 ⟨y, hy, e⟩) (fun z hz e => h2 ⟨z, hz, e⟩)] at hx'
      injection hx' with hx'
      subst hx'
      exact hid
/-- the calls, and the law's two rows -/
structure EndW (W wr : World) (B hn gm B2 : Nat) (T : List Cal) (aL : Option Addr) (cL : Nat) (aR : Option Addr) (cR N M : Nat) (L R : List Int) : Prop where
  A : CalsW wr B hn gm (live T) C4 T.length
  oL : wr.ownsRow B2 2 1 (.slice aL N cL) N (iv L)
  oR : wr.ownsRow B2 3 1 (.slice aR M cR) M (iv R)
  ap : ∀ g ∈ blk aL, g ∉ blk aR
  lo : hn < B2 ∧ gm < B2 ∧ B2 ≤ wr.heap.size
  bel : Below W.heap.size W wr
  ids : IdsO 0 T
  wb : W.heap.size ≤ B ∧ W.heap.size ≤ B2
section
variable {W wr w' : World} {B hn gm B2 cL cR N M : Nat} {T T' : List Cal} {aL aR : Option Addr} {L R : List Int}
theorem EndW.below (h : EndW W wr B hn gm B2 T aL cL aR cR N M L R) (b : Below wr.heap.size wr w') : EndW W w' B hn gm B2 T aL cL aR cR N M L R :=
  ⟨h.A.below b, owns_keep h.oL (Keep.of_below b []) (by simp), owns_keep h.oR (Keep.of_below b []) (by simp), h.ap, ⟨h.lo.1, h.lo.2.1, Nat.le_trans h.lo.2.2 b.size⟩, below_next h.bel b, h.ids, h.wb⟩
theorem EndW.call (h : EndW W wr B hn gm B2 T aL cL aR cR N M L R) (A' : CalsW w' B hn gm (live T') C4 T'.length) (k : Keep [hn, gm] wr w') (hI : IdsO 0 T') : EndW W w' B hn gm B2 T' aL cL aR cR N M L R := by
  obtain ⟨l1, l2, l3⟩ := h.lo
  have hb1 := h.A.base; have hb2 := h.A.gbase; have hw := h.wb.1
  refine ⟨A', owns_keep h.oL k (blk_own _ _ _ fun g hg hm => ?_), owns_keep h.oR k (blk_own _ _ _ fun g hg hm => ?_), h.ap, ⟨l1, l2, Nat.le_trans l3 k.size⟩, h.bel.trans (k.below h.bel.size (fun g hg => ?_)), hI, h.wb⟩
  · have := (owns_blk h.oL g hg).1; simp at hm; omega
  · have := (owns_blk h.oR g hg).1; simp at hm; omega
  · simp at hg; omega
theorem EndW.turnL {aL' : Option Addr} {cL' N' : Nat} {L' : List Int} (h : EndW W wr B hn gm B2 T aL cL aR cR N M L R) (k : Keep (blk aL) wr w') (o : w'.ownsRow B2 2 1 (.slice aL' N' cL') N' (iv L')) (hb : ∀ g ∈ blk aL', g ∈ blk aL ∨ wr.heap.size ≤ g) : EndW W w' B hn gm B2 T aL' cL' aR cR N' M L' R := by
  obtain ⟨l1, l2, l3⟩ := h.lo
  have hlo := fun g hg => (owns_blk h.oL g hg).1
  have hlo2 := fun g hg => (owns_blk h.oR g hg).2
  have hw := h.wb.2
  refine ⟨h.A.keep k (fun hm => by have := hlo _ hm; omega) (fun hm => by have := hlo _ hm; omega), o, owns_keep h.oR k (blk_own _ _ _ fun g hg hm => h.ap g hm hg), fun g hg hm => ?_, ⟨l1, l2, Nat.le_trans l3 k.size⟩, h.bel.trans (k.below h.bel.size (fun g hg => by have := hlo g hg; omega)), h.ids, h.wb⟩
  rcases hb g hg with h1 | h1
  · exact h.ap g h1 hm
  · have := hlo2 g hm; omega
theorem EndW.turnR {aR' : Option Addr} {cR' M' : Nat} {R' : List Int} (h : EndW W wr B hn gm B2 T aL cL aR cR N M L R) (k : Keep (blk aR) wr w') (o : w'.ownsRow B2 3 1 (.slice aR' M' cR') M' (iv R')) (hb : ∀ g ∈ blk aR', g ∈ blk aR ∨ wr.heap.size ≤ g) : EndW W w' B hn gm B2 T aL cL aR' cR' N M' L R' := by
  obtain ⟨l1, l2, l3⟩ := h.lo
  have hlo := fun g hg => (owns_blk h.oR g hg).1
  have hlo2 := fun g hg => (owns_blk h.oL g hg).2
  have hw := h.wb.2
  refine ⟨h.A.keep k (fun hm => by have := hlo _ hm; omega) (fun hm => by have := hlo _ hm; omega), owns_keep h.oL k (blk_own _ _ _ fun g hg hm => h.ap g hg hm), o, fun g hg hm => ?_, ⟨l1, l2, Nat.le_trans l3 k.size⟩, h.bel.trans (k.below h.bel.size (fun g hg => by have := hlo g hg; omega)), h.ids, h.wb⟩
  rcases hb g hm with h1 | h1
  · exact h.ap g hg h1
  · have := hlo2 g hg; omega
theorem EndW.setL {g : Nat} (h : EndW W wr B hn gm B2 T (some ⟨g, 0, none⟩) cL aR cR N M L R) (i : Nat) (hi : i < N) (v : Int) : EndW W (wr.setCell ⟨g, i, none⟩ (.int .i64 v)) B hn gm B2 T (some ⟨g, 0, none⟩) cL aR cR N M (L.set i v) R := by
  have kk := Keep.setCell wr ⟨g, i, none⟩ (.int .i64 v)
  have := owns_put1 h.oL i hi (.int .i64 v)
  rw [← List.map_set] at this
  exact h.turnL (kk.mono (fun x hx => .inl (by simpa [blk] using hx))) this (fun x hx => .inl hx)
theorem EndW.setR {g : Nat} (h : EndW W wr B hn gm B2 T aL cL (some ⟨g, 0, none⟩) cR N M L R) (i : Nat) (hi : i < M) (v : Int) : EndW W (wr.setCell ⟨g, i, none⟩ (.int .i64 v)) B hn gm B2 T aL cL (some ⟨g, 0, none⟩) cR N M L (R.set i v) := by
  have kk := Keep.setCell wr ⟨g, i, none⟩ (.int .i64 v)
  have := owns_put1 h.oR i hi (.int .i64 v)
  rw [← List.map_set] at this
  exact h.turnR (kk.mono (fun x hx => .inl (by simpa [blk] using hx))) this (fun x hx => .inl hx)
theorem EndW.atL (h : EndW W wr B hn gm B2 T aL cL aR cR N M L R) {i : Nat} {l : Int} (hl : L[i]? = some l) : ∃ g, aL = some ⟨g, 0, none⟩ ∧ wr.cell? ⟨g, i, none⟩ = some (.int .i64 l) ∧ wr.frozen? ⟨g, i, none⟩ = false ∧ i < N ∧ g ∈ blk aL := by
  have hi : i < N := by have := h.oL.1; have := (List.getElem?_eq_some_iff.1 hl).1; simp at *; omega
  obtain ⟨g, v, rfl, _, _, hv, hc, hf⟩ := owns_cell1 h.oL i hi
  rw [List.getElem?_map, hl] at hv
  simp at hv
  subst hv
  exact ⟨g, rfl, hc, hf, hi, by simp [blk]⟩
theorem EndW.atR (h : EndW W wr B hn gm B2 T aL cL aR cR N M L R) {i : Nat} {r : Int} (hr : R[i]? = some r) : ∃ g, aR = some ⟨g, 0, none⟩ ∧ wr.cell? ⟨g, i, none⟩ = some (.int .i64 r) ∧ wr.frozen? ⟨g, i, none⟩ = false ∧ i < M ∧ g ∈ blk aR := by
  have hi : i < M := by have := h.oR.1; have := (List.getElem?_eq_some_iff.1 hr).1; simp at *; omega
  obtain ⟨g, v, rfl, _, _, hv, hc, hf⟩ := owns_cell1 h.oR i hi
  rw [List.getElem?_map, hr] at hv
  simp at hv
  subst hv
  exact ⟨g, rfl, hc, hf, hi, by simp [blk]⟩
theorem grown_blk {wr w0 w' : World} {ty : TypeId} {a1 : Option Addr} {n1 c1 m : Nat} {v8 : Value} {xs : List Value} (b0 : Below wr.heap.size wr w0) (ho : w'.ownsRow B2 ty 1 v8 m xs) (hg : w0.grownBy w' (Value.slice a1 n1 c1).ownBlock)
    (hob : v8.ownBlock = (Value.slice a1 n1 c1).ownBlock ∨ v8.ownBlock = some w0.heap.size) : ∃ a8 c8, v8 = .slice a8 m c8 ∧ Keep (blk a1) wr w' ∧ ∀ g ∈ blk a8, g ∈ blk a1 ∨ wr.heap.size ≤ g := by
  obtain ⟨a8, c8, rfl, _, _⟩ := owns_shape ho
  refine ⟨a8, c8, rfl, (Keep.of_below b0 _).trans (keep_grown hg), fun g hg8 => ?_⟩
  have h8 : (Value.slice a8 m c8).ownBlock = some g := by
    cases a8 with
    | none => simp [blk] at hg8
    | some x => simp only [blk, List.mem_singleton] at hg8; simp [Value.ownBlock, hg8]
  rw [h8] at hob
  rcases hob with h9 | h9
  · left
    cases a1 with
    | none => cases h9
    | some x => simp [Value.ownBlock] at h9; simp [blk, h9]
  · right
    injection h9 with h9
    have := b0.size
    omega
theorem EndW.appL {w0 : World} {v8 : Value} {m : Nat} {L' : List Int} {xs : List Value} (h : EndW W wr B hn gm B2 T aL cL aR cR N M L R) (b0 : Below wr.heap.size wr w0) (ho : w'.ownsRow B2 2 1 v8 m xs) (hx : xs = iv L') (hg : w0.grownBy w' (Value.slice aL N cL).ownBlock)
    (hob : v8.ownBlock = (Value.slice aL N cL).ownBlock ∨ v8.ownBlock = some w0.heap.size) : ∃ a8 c8, v8 = .slice a8 m c8 ∧ EndW W w' B hn gm B2 T a8 c8 aR cR m M L' R := by
  obtain ⟨a8, c8, rfl, k, hb⟩ := grown_blk b0 ho hg hob
  exact ⟨a8, c8, rfl, h.turnL k (hx ▸ ho) hb⟩
theorem EndW.appR {w0 : World} {v8 : Value} {m : Nat} {R' : List Int} {xs : List Value} (h : EndW W wr B hn gm B2 T aL cL aR cR N M L R) (b0 : Below wr.heap.size wr w0) (ho : w'.ownsRow B2 3 1 v8 m xs) (hx : xs = iv R') (hg : w0.grownBy w' (Value.slice aR M cR).ownBlock)
    (hob : v8.ownBlock = (Value.slice aR M cR).ownBlock ∨ v8.ownBlock = some w0.heap.size) : ∃ a8 c8, v8 = .slice a8 m c8 ∧ EndW W w' B hn gm B2 T aL cL a8 c8 N m L R' := by
  obtain ⟨a8, c8, rfl, k, hb⟩ := grown_blk b0 ho hg hob
  exact ⟨a8, c8, rfl, h.turnR k (hx ▸ ho) hb⟩
theorem EndW.start {w1 w2 : World} (b1 : Below W.heap.size W w1) (b2 : Below w1.heap.size w1 w2) (h : CalsW w2 w1.heap.size hn gm [] C4 0) : EndW W w2 w1.heap.size hn gm w2.heap.size [] none 0 none 0 0 0 [] [] :=
  ⟨h, ⟨rfl, .inl ⟨rfl, rfl⟩⟩, ⟨rfl, .inl ⟨rfl, rfl⟩⟩, by simp [blk], ⟨by have := h.lts; omega, by have := h.lts; omega, Nat.le_refl _⟩, below_next b1 b2, fun i x hx => by simp at hx, ⟨b1.size, Nat.le_trans b1.size b2.size⟩⟩
end
end Go.Proofs.Ytjhdlohcjodgjaa
