/- A row of packets at an offset: append, the first one off. -/
import Derived.Test.YtjhdlohcjodgjaaPSame
namespace Go.Proofs.Ytjhdlohcjodgjaa
open Go.RowKit
set_option linter.unusedVariables false

/-- a slice of packets of the call's own, at whatever offset: its cells are xs -/
def PRow (w : World) (B : Nat) (ao : Option Addr) (n cap : Nat) (xs : List Value) : Prop :=
  xs.length = n * 4 ∧ n ≤ cap ∧ cap ≤ maxLen ∧ ((ao = none ∧ cap = 0) ∨ ∃ g o, ao = some ⟨g, o, none⟩ ∧ B ≤ g ∧ g < w.heap.size ∧
    (∀ j, j < cap * 4 → (w.cell? ⟨g, o + j, none⟩).isSome = true ∧ w.frozen? ⟨g, o + j, none⟩ = false) ∧ ∀ j u, xs[j]? = some u → w.cell? ⟨g, o + j, none⟩ = some u)
section
variable {w w' : World} {B n cap : Nat} {ao : Option Addr} {xs news : List Value}
theorem PRow.nil (w : World) (B : Nat) : PRow w B none 0 0 [] := ⟨rfl, Nat.le_refl _, Nat.zero_le _, .inl ⟨rfl, rfl⟩⟩
theorem PRow.blks (h : PRow w B ao n cap xs) : ∀ g ∈ blk ao, B ≤ g ∧ g < w.heap.size := by
  intro g hg
  rcases h.2.2.2 with ⟨rfl, _⟩ | ⟨g', o, rfl, h1, h2, _⟩
  · simp [blk] at hg
  · simp only [blk, List.mem_singleton] at hg
    subst hg
    exact ⟨h1, h2⟩
theorem PRow.keep {U : List Nat} (h : PRow w B ao n cap xs) (k : Keep U w w') (hn : ∀ g ∈ blk ao, g ∉ U) : PRow w' B ao n cap xs := by
  refine ⟨h.1, h.2.1, h.2.2.1, ?_⟩
  rcases h.2.2.2 with h1 | ⟨g, o, rfl, h1, h2, h3, h4⟩
  · exact .inl h1
  · have hg : g ∉ U := hn g (by simp [blk])
    refine .inr ⟨g, o, rfl, h1, Nat.lt_of_lt_of_le h2 k.size, fun j hj => ?_, fun j u hu => (k.cell (a := ⟨g, o + j, none⟩) h2 hg).trans (h4 j u hu)⟩
    have := h3 j hj
    rw [k.cell (a := ⟨g, o + j, none⟩) h2 hg, k.frozen (a := ⟨g, o + j, none⟩) h2 hg]
    exact this
theorem PRow.below (h : PRow w B ao n cap xs) (b : Below w.heap.size w w') : PRow w' B ao n cap xs := h.keep (Keep.of_below b []) (by simp)
theorem PRow.of_block {g : Nat} {cs : Array Value} (hg : w.heap[g]? = some (.cells cs 32 (0, 0))) (hB : B ≤ g) (hsz : cs.size = cap * 4) (hx : xs.length = n * 4) (hn : n ≤ cap) (hm : cap ≤ maxLen) (ht : cs.toList.take (n * 4) = xs) : PRow w B (some ⟨g, 0, none⟩) n cap xs := by
  refine ⟨hx, hn, hm, .inr ⟨g, 0, rfl, hB, (Array.getElem?_eq_some_iff.1 hg).1, fun j hj => ?_, fun j u hu => ?_⟩⟩
  · rw [Nat.zero_add]
    refine ⟨?_, frozen_of_row w g j cs _ hg⟩
    rw [cell_of_row w g j cs _ (0, 0) hg, Array.getElem?_eq_getElem (by omega)]
    rfl
  · rw [Nat.zero_add, cell_of_row w g j cs _ (0, 0) hg]
    have hj := (List.getElem?_eq_some_iff.1 hu).1
    rw [← ht, List.getElem?_take, if_pos (by omega), Array.getElem?_toList] at hu
    exact hu
/-- the first packet off -/
theorem PRow.tail (h : PRow w B ao (n + 1) cap xs) : ∃ g o, ao = some ⟨g, o, none⟩ ∧ ∃ A : Addr, (if cap = 1 then some (⟨g, o, none⟩ : Addr) else some ⟨g, o + 4, none⟩) = some A ∧ PRow w B (some A) n (cap - 1) (xs.drop 4) ∧ A.block = g := by
  obtain ⟨h1, h2, h3, h4⟩ := h
  rcases h4 with ⟨_, h5⟩ | ⟨g, o, rfl, hB, hl, hc, hx⟩
  · omega
  · refine ⟨g, o, rfl, ?_⟩
    by_cases e : cap = 1
    · have hn : n = 0 := by omega
      refine ⟨⟨g, o, none⟩, by simp [e], ⟨by rw [List.length_drop]; omega, by omega, by omega, .inr ⟨g, o, rfl, hB, hl, fun j hj => by omega, fun j u hu => ?_⟩⟩, rfl⟩
      have := (List.getElem?_eq_some_iff.1 hu).1
      rw [List.length_drop] at this
      omega
    · refine ⟨⟨g, o + 4, none⟩, by simp [e], ⟨by rw [List.length_drop]; omega, by omega, by omega, .inr ⟨g, o + 4, rfl, hB, hl, fun j hj => ?_, fun j u hu => ?_⟩⟩, rfl⟩
      · rw [show o + 4 + j = o + (4 + j) by omega]; exact hc (4 + j) (by omega)
      · rw [List.getElem?_drop] at hu
        rw [show o + 4 + j = o + (4 + j) by omega]; exact hx (4 + j) u hu
theorem PRow.app (h : PRow w B ao n cap xs) (a : Addr) (c : Nat) (hl : news.length = 4) (hnews : ∀ j u, news[j]? = some u → w.cell? (a.add j) = some u) (h1 : ∀ u ∈ news, u.oneCell' = true) (hn : n ≤ 1000) (hB : B ≤ w.heap.size) (ty : TypeId) :
    ∃ ao' cap' w', (Builtin.append_ #[28, 28] ty #[.slice ao n cap, .slice (some a) 1 c]).run Try.prog w = .ok (.slice ao' (n + 1) cap') w' ∧ PRow w' B ao' (n + 1) cap' (xs ++ news) ∧ Keep (blk ao) w w' ∧ (∀ g ∈ blk ao', g ∈ blk ao ∨ w.heap.size ≤ g) := by
  obtain ⟨i0, hi, hz0, hz1, hz2⟩ := info_parts pkt_info
  have hlen : (xs ++ news).length = (n + 1) * 4 := by rw [List.length_append, h.1, hl]; omega
  have grown : ∀ (old : Nat), old < n + 1 → ∀ (z : Value), z.cells.size = 4 →
      PRow (w.drew.alloc (.cells (xs.toArray ++ news.toArray ++ Builtin.zeroCells z.cells (grownCap w (n + 1) old 32 - (n + 1))) 32)) B (some ⟨w.heap.size, 0, none⟩) (n + 1) (grownCap w (n + 1) old 32) (xs ++ news) ∧
      Keep (blk ao) w (w.drew.alloc (.cells (xs.toArray ++ news.toArray ++ Builtin.zeroCells z.cells (grownCap w (n + 1) old 32 - (n + 1))) 32)) := fun old ho z hz => by
    have hge := grownCap_ge w (n + 1) old 32
    have hcm : grownCap w (n + 1) old 32 ≤ maxLen := grownCap_le_maxLen w (n + 1) old 32 (by unfold maxLen; omega)
    refine ⟨PRow.of_block (heap_alloc_new w.drew _) hB ?_ hlen hge hcm ?_, Keep.of_below (below_alloc (Below.refl _ _).drew _) _⟩
    · simp only [Array.size_append, List.size_toArray, size_zeroCells, hz, h.1, hl]
      omega
    · simp only [Array.toList_append, List.append_assoc]
      rw [← List.append_assoc, ← hlen]
      exact List.take_left
  obtain ⟨hx, hnc, hcm, h4⟩ := h
  rcases h4 with ⟨rfl, rfl⟩ | ⟨g, o, rfl, hbg, hgl, hcs, hxs⟩
  · obtain rfl : n = 0 := by omega
    obtain rfl : xs = [] := List.eq_nil_of_length_eq_zero (by omega)
    have hr := run_append_nil (P := Try.prog) w 28 ty 32 i0 _ Try.underlying28 hi hz0 a 1 c news (by rw [hz1]; exact hl) hnews (by omega) (by omega) (by rw [hz2]; omega)
    have hgr := grown 0 (by omega) (.agg #[.int .u64 0, .int .i64 0, .int .i64 0, .slice none 0 0]) rfl
    simp only [Nat.zero_add, List.nil_append, Array.empty_append] at hgr ⊢
    exact ⟨_, _, _, hr, hgr.1, hgr.2, fun g hg => by simp only [blk, List.mem_singleton] at hg; exact .inr (by omega)⟩
  · by_cases hroom : n + 1 ≤ cap
    · have hr := run_append_room_cells (P := Try.prog) w 28 ty 32 i0 Try.underlying28 hi g o n cap a 1 c news (by rw [hz1]; exact hl) hnews h1 hroom
        (fun j hj => by rw [hz1, Nat.add_assoc]; exact (hcs (n * 4 + j) (by omega)).1) (fun j hj => by rw [hz1, Nat.add_assoc]; exact (hcs (n * 4 + j) (by omega)).2)
      rw [hz1] at hr
      refine ⟨_, _, _, hr, ⟨hlen, hroom, hcm, .inr ⟨g, o, rfl, hbg, Nat.lt_of_lt_of_le hgl (keep_puts _ _ _).size, fun j hj => ?_, fun j u hu => ?_⟩⟩, (keep_puts news w _).mono (fun x hx => .inl (by simpa [blk] using hx)), fun q hq => .inl hq⟩
      · exact ⟨World.isSome_setCells g news _ w _ (hcs j hj).1, by rw [World.frozen?_setCells]; exact (hcs j hj).2⟩
      · by_cases hj : j < n * 4
        · rw [List.getElem?_append_left (by omega)] at hu
          rw [World.cell?_setCells_out g news (o + n * 4) w ⟨g, o + j, none⟩ (fun _ _ => .inl (by show o + j < o + n * 4; omega))]
          exact hxs j u hu
        · rw [List.getElem?_append_right (by omega), hx] at hu
          have hjl := (List.getElem?_eq_some_iff.1 hu).1
          have := World.cell?_setCells_in g news (o + n * 4) w (fun j hj => by rw [Nat.add_assoc]; exact (hcs (n * 4 + j) (by omega)).1) (j - n * 4) (by omega)
          rw [show o + n * 4 + (j - n * 4) = o + j by omega] at this
          rw [this, ← hu, List.getElem?_eq_getElem (by omega)]
    · have holds : ∀ j u, xs[j]? = some u → w.cell? ((⟨g, o, none⟩ : Addr).add j) = some u := fun j u hu => by rw [Addr.add_lit]; exact hxs j u hu
      have hr := run_append_grow (P := Try.prog) w 28 ty 32 i0 _ Try.underlying28 hi hz0 ⟨g, o, none⟩ n cap xs (by rw [hz1]; exact hx) holds a 1 c news (by rw [hz1]; exact hl) hnews (by omega) (by omega) (growslice_fits (by omega) (by rw [hz2]; omega))
      have hgr := grown cap (by omega) (.agg #[.int .u64 0, .int .i64 0, .int .i64 0, .slice none 0 0]) rfl
      exact ⟨_, _, _, hr, hgr.1, hgr.2, fun g hg => by simp only [blk, List.mem_singleton] at hg; exact .inr (by omega)⟩
end
end Go.Proofs.Ytjhdlohcjodgjaa
